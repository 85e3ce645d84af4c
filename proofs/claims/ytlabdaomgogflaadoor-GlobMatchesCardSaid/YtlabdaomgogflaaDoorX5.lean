/- The reference: the walk of set. -/
import Derived.Test.YtlabdaomgogflaaDoorX4
namespace Go.Proofs.YtlabdaomgogflaaDoor
open Go.RowKit

theorem rest_cases (s : ByteArray) (a k : Nat) (hk : k ≤ s.size) : (∃ h : a + 1 < k, s[a + 1]'(by omega) = 33 ∧ Lib.hasPrefix (seg s (a + 1) k) [33] = true ∧ Lib.trimPrefix (seg s (a + 1) k) [33] = seg s (a + 2) k) ∨
    ((∀ h : a + 1 < k, s[a + 1]'(by omega) ≠ 33) ∧ Lib.hasPrefix (seg s (a + 1) k) [33] = false ∧ Lib.trimPrefix (seg s (a + 1) k) [33] = seg s (a + 1) k) := by
  by_cases h : a + 1 < k
  · rw [seg_cons s (a + 1) k h hk]
    by_cases hx : s[a + 1]'(by omega) = 33
    · refine Or.inl ⟨h, hx, by rw [hx]; rfl, ?_⟩
      rw [hx]
      unfold Lib.trimPrefix
      rw [if_pos (by rfl)]
      rfl
    · have hp : Lib.hasPrefix (s[a + 1]'(by omega) :: seg s (a + 1 + 1) k) [33] = false := by
        unfold Lib.hasPrefix
        rw [Bool.eq_false_iff]
        intro hc
        rw [List.isPrefixOf_iff_prefix] at hc
        obtain ⟨r, hr⟩ := hc
        exact hx (List.cons.inj hr).1.symm
      refine Or.inr ⟨fun _ => hx, hp, ?_⟩
      unfold Lib.trimPrefix
      rw [hp]
      rfl
  · have hl : seg s (a + 1) k = [] := by unfold seg; rw [show k - (a + 1) = 0 by omega]; rfl
    rw [hl]
    exact Or.inr ⟨fun h' => absurd h' h, rfl, rfl⟩

/-- What set gives back. -/
def SetPost (s : ByteArray) (a : Nat) (w : World) (e : Ending) (w' : World) : Prop :=
  Below w.heap.size w w' ∧ ((firstEl (s.data.toList.drop a) = 0 ∧ ∃ ng ao m cap, e = .returned (.tuple #[.agg #[.int .i64 5, .int .u8 0, .bool ng, .slice ao m cap], .int .i64 (-1)])) ∨
    ∃ n ao m cap, firstEl (s.data.toList.drop a) = n ∧ n ≠ 0 ∧ e = .returned (.tuple #[.agg #[.int .i64 5, .int .u8 0, .bool (negOf ((s.data.toList.drop a).take n)), .slice ao m cap], .int .i64 ((a : Int) + (n : Int))]) ∧
      w'.ownsRow (w.heap.size + 2) 64 2 (.slice ao m cap) (setOf ((s.data.toList.drop a).take n)).length (rCells (setOf ((s.data.toList.drop a).take n))))

theorem push4 {w wr w1 : World} {N : Nat} {xs : List Value} {o : Obj} {k c n v : Value} (hb : Below w.heap.size w wr) (hq4 : Q4 wr w.heap.size (.int .i64 0) (.int .u8 0) (.bool false) (.slice none 0 0)) (hq6 : Q4 wr (w.heap.size + 1) k c n v)
    (hown : wr.ownsRow (w.heap.size + 2) 64 2 v N xs) (hgrow : (wr.alloc o).drew.grownBy w1 v.ownBlock) :
    Q4 w1 w.heap.size (.int .i64 0) (.int .u8 0) (.bool false) (.slice none 0 0) ∧ Q4 w1 (w.heap.size + 1) k c n v ∧ Below w.heap.size w w1 := by
  have hlo : ∀ g, v.ownBlock = some g → w.heap.size + 2 ≤ g := fun g hg => (hown.lt g hg).1
  have hd : Below wr.heap.size wr (wr.alloc o).drew := (bnew (Below.refl _ _) _).drew
  have h4 := (hq4.below hd).grown hgrow (fun e => by have := hlo _ e.symm; omega)
  have h6 := (hq6.below hd).grown hgrow (fun e => by have := hlo _ e.symm; omega)
  refine ⟨h4, h6, (bgo hb hd).trans ⟨hgrow.os, hgrow.tape, hgrow.output, hgrow.size, fun k hk => hgrow.block k ?_ fun e => ?_⟩⟩
  · have := (bgo hb hd).size
    omega
  · have := hlo _ e.symm
    omega

/-- Where the loop over the elements of a set stands. -/
def SInv (s : ByteArray) (w : World) (ng : Bool) (i0 k i : Nat) (ds : List (UInt8 × UInt8)) (ao : Option Addr) (m cap : Nat) (wr : World) : Prop :=
  ranges (seg s i0 k) = ds ++ ranges (seg s i k) ∧ ds.all rOk = true ∧ (ds.length = m ∧ m + (k - i) ≤ k - i0) ∧
  Q4 wr w.heap.size (.int .i64 0) (.int .u8 0) (.bool false) (.slice none 0 0) ∧ Q4 wr (w.heap.size + 1) (.int .i64 5) (.int .u8 0) (.bool ng) (.slice ao m cap) ∧
  wr.ownsRow (w.heap.size + 2) 64 2 (.slice ao m cap) m (rCells ds) ∧ Below w.heap.size w wr
theorem SInv.below {s : ByteArray} {w wr w1 : World} {ng : Bool} {i0 k i m cap : Nat} {ds : List (UInt8 × UInt8)} {ao : Option Addr} (h : SInv s w ng i0 k i ds ao m cap wr) (hb : Below wr.heap.size wr w1) : SInv s w ng i0 k i ds ao m cap w1 := by
  obtain ⟨h1, h2, h3, q4, q6, hown, hbl⟩ := h
  exact ⟨h1, h2, h3, q4.below hb, q6.below hb, owns_below hown hb, bgo hbl hb⟩
theorem SInv.push {s : ByteArray} {w wr w1 : World} {ng : Bool} {i0 k i i' m cap cap' g : Nat} {ds : List (UInt8 × UInt8)} {ao : Option Addr} {lo hi : UInt8} (h : SInv s w ng i0 k i ds ao m cap wr) (hr : ranges (seg s i k) = (lo, hi) :: ranges (seg s i' k)) (hok : rOk (lo, hi) = true) (hii : i < i') (hik : i' ≤ k)
    (h4 : Q4 w1 w.heap.size (.int .i64 0) (.int .u8 0) (.bool false) (.slice none 0 0)) (h6 : Q4 w1 (w.heap.size + 1) (.int .i64 5) (.int .u8 0) (.bool ng) (.slice ao m cap)) (hb : Below w.heap.size w w1)
    (hown : w1.ownsRow (w.heap.size + 2) 64 2 (.slice (some ⟨g, 0, none⟩) (m + 1) cap') (m + 1) (rCells ds ++ [.int .u8 (lo.toNat : Int), .int .u8 (hi.toNat : Int)])) :
    SInv s w ng i0 k i' (ds ++ [(lo, hi)]) (some ⟨g, 0, none⟩) (m + 1) cap' (w1.setCell ⟨w.heap.size + 1, 3, none⟩ (.slice (some ⟨g, 0, none⟩) (m + 1) cap')) := by
  obtain ⟨h1, h2, ⟨h3, h3'⟩, _⟩ := h
  refine ⟨by rw [h1, hr]; simp, by rw [List.all_append, h2]; simpa using hok, ⟨by simp [h3], by omega⟩, h4.far _ _ (by omega) _, h6.set3 _, ?_, hb.setCell (by show w.heap.size ≤ w.heap.size + 1; omega) _⟩
  rw [rCells_append]
  exact ownsRow_setCell_below hown (by show w.heap.size + 1 < w.heap.size + 2; omega) _

set_option maxRecDepth 100000 in
set_option maxHeartbeats 64000000 in
theorem set50 (s : ByteArray) (a : Nat) (w : World) (hs : s.size ≤ 100000) (ha : a < s.size) (h91 : s[a] = 91) : Calls Tryd.prog 50 #[.string s, .int .i64 a] w (SetPost s a w) := by
  have hq4 : Q4 ((w.alloc (.cells #[.int .i64 0, .int .u8 0, .bool false, .slice none 0 0] 47)).alloc (.cells #[.int .i64 5, .int .u8 0, .bool false, .slice none 0 0] 47)) w.heap.size (.int .i64 0) (.int .u8 0) (.bool false) (.slice none 0 0) := (Q4.alloc w _ _ _ _).below (bnew (Below.refl _ _) _)
  have hq6 : Q4 ((w.alloc (.cells #[.int .i64 0, .int .u8 0, .bool false, .slice none 0 0] 47)).alloc (.cells #[.int .i64 5, .int .u8 0, .bool false, .slice none 0 0] 47)) (w.heap.size + 1) (.int .i64 5) (.int .u8 0) (.bool false) (.slice none 0 0) := by
    have := Q4.alloc (w.alloc (.cells #[.int .i64 0, .int .u8 0, .bool false, .slice none 0 0] 47)) (.int .i64 5) (.int .u8 0) (.bool false) (.slice none 0 0)
    rw [show (w.alloc (.cells #[.int .i64 0, .int .u8 0, .bool false, .slice none 0 0] 47)).heap.size = w.heap.size + 1 by simp] at this
    exact this
  have hbw : Below w.heap.size w ((w.alloc (.cells #[.int .i64 0, .int .u8 0, .bool false, .slice none 0 0] 47)).alloc (.cells #[.int .i64 5, .int .u8 0, .bool false, .slice none 0 0] 47)) := bnew (bnew (Below.refl _ _) _) _
  have hsz : ((w.alloc (.cells #[.int .i64 0, .int .u8 0, .bool false, .slice none 0 0] 47)).alloc (.cells #[.int .i64 5, .int .u8 0, .bool false, .slice none 0 0] 47)).heap.size = w.heap.size + 2 := by simp
  have hnone := end_none s a ha h91
  have hsome := fun k => end_some s a k ha h91
  have helin := fun k => el_in s a k ha h91
  have hrest := fun k => rest_cases s a k
  have Hnone := hide hnone
  have Hsome := hide hsome
  have Helin := hide helin
  have Hrest := hide hrest
  clear hnone hsome helin hrest h91
  go_enter Tryd.func50, Tryd.ntmps50
  go_wp2
  generalize ((w.alloc (.cells #[.int .i64 0, .int .u8 0, .bool false, .slice none 0 0] 47)).alloc (.cells #[.int .i64 5, .int .u8 0, .bool false, .slice none 0 0] 47)) = W1 at hq4 hq6 hbw hsz
  go_loop [7] (fun v => ∃ k : Nat, a + 1 ≤ k ∧ k ≤ s.size ∧ v = .int .i64 k ∧ ∀ j (hj : j < s.size), a + 1 ≤ j → j < k → s[j] ≠ 93) (fun v => s.size - (intOf v).toNat)
  case atStart => exact ⟨a + 1, Nat.le_refl _, by omega, by go_num, fun j hj h1 h2 => by omega⟩
  case round =>
    obtain ⟨k, hak, hks, rfl, hno⟩ := hrel
    have Hno := hide hno
    clear hno
    by_cases hlt : k < s.size
    · have hbb : s[k].toNat < 256 := UInt8.toNat_lt _
      by_cases h93 : s[k] = 93
      · have hfe := Hsome.out k hlt hak h93 Hno.out
        have hei := Helin.out k hlt hak
        have hrc := Hrest.out k hks
        have eb : ((s[k].toNat : Int) != 93) = false := (u8ni s[k] 93).trans (by rw [h93]; rfl)
        have Hfe := hide hfe
        have Hei := hide hei
        clear hfe hei h93
        rcases hrc with ⟨h33, e33, hp, ht⟩ | ⟨e33, hp, ht⟩
        · skip
          have Hp := hide hp
          have Ht := hide ht
          clear hp ht
          have eb33 : ((s[a + 1].toNat : Int) == 33) = true := u8t e33
          have hb33 : s[a + 1].toNat < 256 := UInt8.toNat_lt _
          have hq6' := hq6.set2 (.bool true)
          have hq4' := hq4.far (w.heap.size + 1) 2 (by omega) (.bool true)
          have hbw' : Below w.heap.size w (W1.setCell ⟨w.heap.size + 1, 2, none⟩ (.bool true)) := hbw.setCell (by show w.heap.size ≤ w.heap.size + 1; omega) _
          have hin : SInv s w true (a + 2) k (a + 2) [] none 0 0 (W1.setCell ⟨w.heap.size + 1, 2, none⟩ (.bool true)) := ⟨rfl, rfl, ⟨rfl, by omega⟩, hq4', hq6', World.ownsRow_nil _ _ _ _, hbw'⟩
          have Hin := hide hin
          obtain ⟨hl6, ⟨c60, c61, c62, c63⟩, f60, f61, f62, f63⟩ := hq6
          have hak1 : ((a : Int) + 1) < (k : Int) := by omega
          clear hin hq6' hq4' hbw' hq4 hbw e33
          go_wp2
          go_loopw [8] (fun v wr => ∃ (i : Nat) (ds : List (UInt8 × UInt8)) (ao : Option Addr) (m cap : Nat), a + 2 ≤ i ∧ i ≤ k ∧ v = .int .i64 i ∧ SInv s w true (a + 2) k i ds ao m cap wr) (fun v _ => k - (intOf v).toNat)
          case atStart => exact ⟨a + 2, [], none, 0, 0, Nat.le_refl _, by omega, by go_num, Hin.out⟩
          case round =>
            obtain ⟨i, ds, ao, m, cap, hi0, hik, rfl, hinv⟩ := hrel
            have Hinv := hide hinv
            obtain ⟨hr1, hr2, ⟨hr3, hr3'⟩, q4, q6, hown, hbl⟩ := hinv
            have Q4h := hide q4
            have Q6h := hide q6
            obtain ⟨hl6, ⟨c60, c61, c62, c63⟩, f60, f61, f62, f63⟩ := q6
            obtain ⟨hl4, ⟨d0, d1, d2, d3⟩, g0, g1, g2, g3⟩ := q4
            have hm : m ≤ 100000 := by omega
            have Hown := hide hown
            have Hbl := hide hbl
            have hsz6 := hbl.size
            have Hr1 := hide hr1
            have Hr2 := hide hr2
            clear hr1 hr2 hown hbl
            by_cases hlt2 : i < k
            · have hsi : s[i].toNat < 256 := UInt8.toNat_lt _
              have hisz : i < s.size := by omega
              have hiszi : (i : Int) < (s.size : Int) := by omega
              have h0i : (0 : Int) ≤ (i : Int) := by omega
              have hok1 : rOk (s[i], s[i]) = true := decide_eq_true (Nat.le_refl _)
              clear hr3
              by_cases h2 : i + 2 < k
              · have hs1 : s[i + 1].toNat < 256 := UInt8.toNat_lt _
                by_cases h45 : s[i + 1] = 45
                · have hseg := seg_two s i k h2 hks h45
                  have eb45 : ((s[i + 1].toNat : Int) == 45) = true := u8t h45
                  have Hseg := hide hseg
                  have hs2 : s[i + 2].toNat < 256 := UInt8.toNat_lt _
                  have hi2sz : i + 2 < s.size := by omega
                  have hi2 : (i : Int) + 2 < (s.size : Int) := by omega
                  have h02 : (0 : Int) ≤ (i : Int) + 2 := by omega
                  have ht2 : ((i : Int) + 2).toNat = i + 2 := by omega
                  have hw2 : IntKind.i64.wrap ((i : Int) + 2) = (i : Int) + 2 := IntWalk.i64_in _ ⟨by omega, by omega⟩
                  clear hseg h45 hok1
                  by_cases hbad : s[i + 2].toNat < s[i].toNat
                  · have hres : firstEl (s.data.toList.drop a) = 0 := by
                      rw [Hfe.out, if_neg]
                      unfold setOk
                      rw [Ht.out, Hr1.out, Hseg.out, List.all_append, List.all_cons, show rOk (s[i], s[i + 2]) = false from decide_eq_false (by simpa using hbad)]
                      simp
                    have Hres := hide hres
                    clear hres
                    go_wp2
                    go_quiet (fail)
                    go_wp2
                    exact bodyPost_ret (v := .tuple #[.agg #[.int .i64 5, .int .u8 0, .bool true, .slice ao m cap], .int .i64 (-1)]) (by simp [results, Tryd.results50, go_sem, d0, d1, d2, d3]) rfl ⟨((((Hbl.out.trans (Drawn.below ⟨_, rfl⟩ _)).setCell (by exact Nat.le_refl _) _).setCell (by exact Nat.le_refl _) _).setCell (by exact Nat.le_refl _) _).setCell (by exact Nat.le_refl _) _, Or.inl ⟨Hres.out, true, ao, m, cap, rfl⟩⟩
                  · have Hok := hide (show rOk (s[i], s[i + 2]) = true from decide_eq_true (by simpa using hbad))
                    clear d0 d1 d2 d3 g0 g1 g2 g3 c60 c61 c62 f60 f61 f62
                    go_wp2
                    go_quiet (fail)
                    go_wp2
                    have hdn : Below wr.heap.size wr (wr.drewN nq) := Drawn.below ⟨nq, rfl⟩ _
                    have hinv2 := Hinv.out.below hdn
                    clear hdn Hinv Q4h Q6h Hown Hbl c63 f63 hl6 hl4 hsz6
                    generalize wr.drewN nq = wo at hinv2
                    have Hinv := hide hinv2
                    obtain ⟨_, _, _, q4, q6, hown, hbl⟩ := hinv2
                    have Q4h := hide q4
                    have Q6h := hide q6
                    obtain ⟨hl6, ⟨c60, c61, c62, c63⟩, f60, f61, f62, f63⟩ := q6
                    have Hown := hide hown
                    have Hbl := hide hbl
                    have hsz6 := hbl.size
                    clear hown hbl c60 c61 c62 f60 f61 f62 q4
                    have hlo : (wo.alloc (.cells #[.int .u8 (s[i].toNat : Int), .int .u8 (s[i + 2].toNat : Int)] 64)).drew.cell? ⟨w.heap.size + 1, 3, none⟩ = some (.slice ao m cap) := by
                      refine Eq.trans ?_ c63
                      exact World.cell?_alloc_lt wo _ _ (by show w.heap.size + 1 < wo.heap.size; omega)
                    obtain ⟨in0, hin, hz0, hz1, hz2⟩ := info_parts info64
                    go_region_law ((refine step_append_lies _ (by rfl) (.tmp 67) (.tmp 76) 45 (by rfl) (w.heap.size + 2) 64 in0 _ 2 2 Tryd.underlying45 hin hz0 hz1 hz2 rfl (by omega) (.slice ao m cap) m (rCells ds) (by rfl) (Hown.out.alloc _).drew ⟨wo.heap.size, 0, none⟩ 1 1 [.int .u8 (s[i].toNat : Int), .int .u8 (s[i + 2].toNat : Int)] (by rfl) (by rfl) (c1_two _ _ _ _) (c2_two _ _ _) (by omega) (by unfold maxLen; omega) (by omega) (by simp; omega) (wo.heap.size + 1) (by simp) ?_; intro gg cap2 w1 hown1 hgrow hat hlt5; have hR := push4 Hbl.out Q4h.out Q6h.out Hown.out hgrow; have hc1 : w1.cell? ⟨w.heap.size + 1, 3, none⟩ = some (.slice ao m cap) := hR.2.1.2.1.2.2.2; have hf1 : w1.frozen? ⟨w.heap.size + 1, 3, none⟩ = false := hR.2.1.2.2.2.2.2))
                    all_goals
                      have hnx := Hinv.out.push Hseg.out Hok.out (by omega) (by omega) hR.1 hR.2.1 hR.2.2 hown1
                      have Hnx := hide hnx
                      clear hnx hR hown1 hgrow hat hc1 hf1
                      go_wp2
                      go_roundw
                      case rel => exact ⟨i + 3, _, _, _, _, by omega, by omega, by go_num, Hnx.out⟩
                      case measure => simp [intOf]; omega
                · have hseg := seg_one s i k hlt2 hks (fun _ => h45)
                  have eb45 : ((s[i + 1].toNat : Int) == 45) = false := u8f h45
                  have Hseg := hide hseg
                  have Hok := hide hok1
                  clear hseg h45 hok1 d0 d1 d2 d3 g0 g1 g2 g3 c60 c61 c62 f60 f61 f62
                  go_wp2
                  have hlo : (wr.alloc (.cells #[.int .u8 (s[i].toNat : Int), .int .u8 (s[i].toNat : Int)] 64)).drew.cell? ⟨w.heap.size + 1, 3, none⟩ = some (.slice ao m cap) := by
                    refine Eq.trans ?_ c63
                    exact World.cell?_alloc_lt wr _ _ (by show w.heap.size + 1 < wr.heap.size; omega)
                  obtain ⟨in0, hin, hz0, hz1, hz2⟩ := info_parts info64
                  go_region_law ((refine step_append_lies _ (by rfl) (.tmp 82) (.tmp 90) 45 (by rfl) (w.heap.size + 2) 64 in0 _ 2 2 Tryd.underlying45 hin hz0 hz1 hz2 rfl (by omega) (.slice ao m cap) m (rCells ds) (by rfl) (Hown.out.alloc _).drew ⟨wr.heap.size, 0, none⟩ 1 1 [.int .u8 (s[i].toNat : Int), .int .u8 (s[i].toNat : Int)] (by rfl) (by rfl) (c1_two _ _ _ _) (c2_two _ _ _) (by omega) (by unfold maxLen; omega) (by omega) (by simp; omega) (wr.heap.size + 1) (by simp) ?_; intro gg cap2 w1 hown1 hgrow hat hlt5; have hR := push4 Hbl.out Q4h.out Q6h.out Hown.out hgrow; have hc1 : w1.cell? ⟨w.heap.size + 1, 3, none⟩ = some (.slice ao m cap) := hR.2.1.2.1.2.2.2; have hf1 : w1.frozen? ⟨w.heap.size + 1, 3, none⟩ = false := hR.2.1.2.2.2.2.2))
                  all_goals
                    have hnx := Hinv.out.push Hseg.out Hok.out (by omega) (by omega) hR.1 hR.2.1 hR.2.2 hown1
                    have Hnx := hide hnx
                    clear hnx hR hown1 hgrow hat hc1 hf1
                    go_wp2
                    go_roundw
                    case rel => exact ⟨i + 1, _, _, _, _, by omega, by omega, by go_num, Hnx.out⟩
                    case measure => simp [intOf]; omega
              · have hseg := seg_one s i k hlt2 hks (fun h => absurd h h2)
                have Hseg := hide hseg
                have Hok := hide hok1
                clear hseg hok1 d0 d1 d2 d3 g0 g1 g2 g3 c60 c61 c62 f60 f61 f62
                go_wp2
                have hlo : (wr.alloc (.cells #[.int .u8 (s[i].toNat : Int), .int .u8 (s[i].toNat : Int)] 64)).drew.cell? ⟨w.heap.size + 1, 3, none⟩ = some (.slice ao m cap) := by
                  refine Eq.trans ?_ c63
                  exact World.cell?_alloc_lt wr _ _ (by show w.heap.size + 1 < wr.heap.size; omega)
                obtain ⟨in0, hin, hz0, hz1, hz2⟩ := info_parts info64
                go_region_law ((refine step_append_lies _ (by rfl) (.tmp 82) (.tmp 90) 45 (by rfl) (w.heap.size + 2) 64 in0 _ 2 2 Tryd.underlying45 hin hz0 hz1 hz2 rfl (by omega) (.slice ao m cap) m (rCells ds) (by rfl) (Hown.out.alloc _).drew ⟨wr.heap.size, 0, none⟩ 1 1 [.int .u8 (s[i].toNat : Int), .int .u8 (s[i].toNat : Int)] (by rfl) (by rfl) (c1_two _ _ _ _) (c2_two _ _ _) (by omega) (by unfold maxLen; omega) (by omega) (by simp; omega) (wr.heap.size + 1) (by simp) ?_; intro gg cap2 w1 hown1 hgrow hat hlt5; have hR := push4 Hbl.out Q4h.out Q6h.out Hown.out hgrow; have hc1 : w1.cell? ⟨w.heap.size + 1, 3, none⟩ = some (.slice ao m cap) := hR.2.1.2.1.2.2.2; have hf1 : w1.frozen? ⟨w.heap.size + 1, 3, none⟩ = false := hR.2.1.2.2.2.2.2))
                all_goals
                  have hnx := Hinv.out.push Hseg.out Hok.out (by omega) (by omega) hR.1 hR.2.1 hR.2.2 hown1
                  have Hnx := hide hnx
                  clear hnx hR hown1 hgrow hat hc1 hf1
                  go_wp2
                  go_roundw
                  case rel => exact ⟨i + 1, _, _, _, _, by omega, by omega, by go_num, Hnx.out⟩
                  case measure => simp [intOf]; omega
            · obtain rfl : i = k := by omega
              have hds : ranges (seg s (a + 2) i) = ds := by rw [Hr1.out, seg_nil, ranges_nil, List.append_nil]
              by_cases hm0 : m = 0
              · have hres : firstEl (s.data.toList.drop a) = 0 := by
                  have he : seg s (a + 2) i = [] := by
                    cases hsg : seg s (a + 2) i with
                    | nil => rfl
                    | cons x y =>
                      rw [hsg, ranges_cons _ (by simp)] at hds
                      rw [← hds] at hr3
                      simp at hr3
                      omega
                  rw [Hfe.out, if_neg]
                  unfold setOk
                  rw [Ht.out, he]
                  simp
                have Hres := hide hres
                subst hm0
                clear hres hds hr3
                go_wp2
                exact bodyPost_ret (v := .tuple #[.agg #[.int .i64 5, .int .u8 0, .bool true, .slice ao 0 cap], .int .i64 (-1)]) (by simp [results, Tryd.results50, go_sem, d0, d1, d2, d3]) rfl ⟨(((Hbl.out.setCell (by exact Nat.le_refl _) _).setCell (by exact Nat.le_refl _) _).setCell (by exact Nat.le_refl _) _).setCell (by exact Nat.le_refl _) _, Or.inl ⟨Hres.out, true, ao, 0, cap, rfl⟩⟩
              · have hmb : ((m : Int) == 0) = false := beq_eq_false_iff_ne.2 (by omega)
                obtain ⟨ei1, ei2⟩ := Hei.out (i - a + 1) rfl
                have hres : firstEl (s.data.toList.drop a) = i - a + 1 := by
                  rw [Hfe.out, if_pos]
                  unfold setOk
                  rw [Ht.out, hds, Hr2.out]
                  have : seg s (a + 2) i ≠ [] := by
                    intro he
                    rw [he, ranges_nil] at hds
                    rw [← hds] at hr3
                    simp at hr3
                    omega
                  cases hsg : seg s (a + 2) i with
                  | nil => exact absurd hsg this
                  | cons x y => rfl
                have hneg : true = negOf ((s.data.toList.drop a).take (i - a + 1)) := by
                  unfold negOf
                  rw [if_pos ei2, ei1, Hp.out]
                have hset : ds = setOf ((s.data.toList.drop a).take (i - a + 1)) := by
                  unfold setOf
                  rw [if_pos ei2, ei1, Ht.out, hds]
                have Hres := hide hres
                have Hneg := hide hneg
                have Hset := hide hset
                have Hm3 := hide hr3
                clear hres hneg hset hds hr3 ei1 ei2
                go_wp2
                refine bodyPost_ret (v := .tuple #[.agg #[.int .i64 5, .int .u8 0, .bool true, .slice ao m cap], .int .i64 ((i : Int) + 1)]) (by simp [results, Tryd.results50, go_sem, d0, d1, d2, d3]) rfl ⟨(((Hbl.out.setCell (by exact Nat.le_refl _) _).setCell (by exact Nat.le_refl _) _).setCell (by exact Nat.le_refl _) _).setCell (by exact Nat.le_refl _) _, Or.inr ⟨i - a + 1, ao, m, cap, Hres.out, by omega, ?_, ?_⟩⟩
                · rw [← Hneg.out, show (a : Int) + ((i - a + 1 : Nat) : Int) = (i : Int) + 1 by omega]
                · rw [← Hset.out, Hm3.out]
                  exact ownsRow_setCell_below (ownsRow_setCell_below (ownsRow_setCell_below (ownsRow_setCell_below Hown.out (by show w.heap.size < w.heap.size + 2; omega) _) (by show w.heap.size < w.heap.size + 2; omega) _) (by show w.heap.size < w.heap.size + 2; omega) _) (by show w.heap.size < w.heap.size + 2; omega) _
        · by_cases h33 : a + 1 < k
          · have eb33 : ((s[a + 1].toNat : Int) == 33) = false := u8f (e33 h33)
            have hb33 : s[a + 1].toNat < 256 := UInt8.toNat_lt _
            have Hp := hide hp
            have Ht := hide ht
            clear hp ht
            have hin : SInv s w false (a + 1) k (a + 1) [] none 0 0 W1 := ⟨rfl, rfl, ⟨rfl, by omega⟩, hq4, hq6, World.ownsRow_nil _ _ _ _, hbw⟩
            have Hin := hide hin
            clear hin hq4 hbw hq6
            clear e33
            go_wp2
            go_loopw [8] (fun v wr => ∃ (i : Nat) (ds : List (UInt8 × UInt8)) (ao : Option Addr) (m cap : Nat), a + 1 ≤ i ∧ i ≤ k ∧ v = .int .i64 i ∧ SInv s w false (a + 1) k i ds ao m cap wr) (fun v _ => k - (intOf v).toNat)
            case atStart => exact ⟨a + 1, [], none, 0, 0, Nat.le_refl _, by omega, by go_num, Hin.out⟩
            case round =>
              obtain ⟨i, ds, ao, m, cap, hi0, hik, rfl, hinv⟩ := hrel
              have Hinv := hide hinv
              obtain ⟨hr1, hr2, ⟨hr3, hr3'⟩, q4, q6, hown, hbl⟩ := hinv
              have Q4h := hide q4
              have Q6h := hide q6
              obtain ⟨hl6, ⟨c60, c61, c62, c63⟩, f60, f61, f62, f63⟩ := q6
              obtain ⟨hl4, ⟨d0, d1, d2, d3⟩, g0, g1, g2, g3⟩ := q4
              have hm : m ≤ 100000 := by omega
              have Hown := hide hown
              have Hbl := hide hbl
              have hsz6 := hbl.size
              have Hr1 := hide hr1
              have Hr2 := hide hr2
              clear hr1 hr2 hown hbl
              by_cases hlt2 : i < k
              · have hsi : s[i].toNat < 256 := UInt8.toNat_lt _
                have hisz : i < s.size := by omega
                have hiszi : (i : Int) < (s.size : Int) := by omega
                have h0i : (0 : Int) ≤ (i : Int) := by omega
                have hok1 : rOk (s[i], s[i]) = true := decide_eq_true (Nat.le_refl _)
                clear hr3
                by_cases h2 : i + 2 < k
                · have hs1 : s[i + 1].toNat < 256 := UInt8.toNat_lt _
                  by_cases h45 : s[i + 1] = 45
                  · have hseg := seg_two s i k h2 hks h45
                    have eb45 : ((s[i + 1].toNat : Int) == 45) = true := u8t h45
                    have Hseg := hide hseg
                    have hs2 : s[i + 2].toNat < 256 := UInt8.toNat_lt _
                    have hi2sz : i + 2 < s.size := by omega
                    have hi2 : (i : Int) + 2 < (s.size : Int) := by omega
                    have h02 : (0 : Int) ≤ (i : Int) + 2 := by omega
                    have ht2 : ((i : Int) + 2).toNat = i + 2 := by omega
                    have hw2 : IntKind.i64.wrap ((i : Int) + 2) = (i : Int) + 2 := IntWalk.i64_in _ ⟨by omega, by omega⟩
                    clear hseg h45 hok1
                    by_cases hbad : s[i + 2].toNat < s[i].toNat
                    · have hres : firstEl (s.data.toList.drop a) = 0 := by
                        rw [Hfe.out, if_neg]
                        unfold setOk
                        rw [Ht.out, Hr1.out, Hseg.out, List.all_append, List.all_cons, show rOk (s[i], s[i + 2]) = false from decide_eq_false (by simpa using hbad)]
                        simp
                      have Hres := hide hres
                      clear hres
                      go_wp2
                      go_quiet (fail)
                      go_wp2
                      exact bodyPost_ret (v := .tuple #[.agg #[.int .i64 5, .int .u8 0, .bool false, .slice ao m cap], .int .i64 (-1)]) (by simp [results, Tryd.results50, go_sem, d0, d1, d2, d3]) rfl ⟨((((Hbl.out.trans (Drawn.below ⟨_, rfl⟩ _)).setCell (by exact Nat.le_refl _) _).setCell (by exact Nat.le_refl _) _).setCell (by exact Nat.le_refl _) _).setCell (by exact Nat.le_refl _) _, Or.inl ⟨Hres.out, false, ao, m, cap, rfl⟩⟩
                    · have Hok := hide (show rOk (s[i], s[i + 2]) = true from decide_eq_true (by simpa using hbad))
                      clear d0 d1 d2 d3 g0 g1 g2 g3 c60 c61 c62 f60 f61 f62
                      go_wp2
                      go_quiet (fail)
                      go_wp2
                      have hdn : Below wr.heap.size wr (wr.drewN nq) := Drawn.below ⟨nq, rfl⟩ _
                      have hinv2 := Hinv.out.below hdn
                      clear hdn Hinv Q4h Q6h Hown Hbl c63 f63 hl6 hl4 hsz6
                      generalize wr.drewN nq = wo at hinv2
                      have Hinv := hide hinv2
                      obtain ⟨_, _, _, q4, q6, hown, hbl⟩ := hinv2
                      have Q4h := hide q4
                      have Q6h := hide q6
                      obtain ⟨hl6, ⟨c60, c61, c62, c63⟩, f60, f61, f62, f63⟩ := q6
                      have Hown := hide hown
                      have Hbl := hide hbl
                      have hsz6 := hbl.size
                      clear hown hbl c60 c61 c62 f60 f61 f62 q4
                      have hlo : (wo.alloc (.cells #[.int .u8 (s[i].toNat : Int), .int .u8 (s[i + 2].toNat : Int)] 64)).drew.cell? ⟨w.heap.size + 1, 3, none⟩ = some (.slice ao m cap) := by
                        refine Eq.trans ?_ c63
                        exact World.cell?_alloc_lt wo _ _ (by show w.heap.size + 1 < wo.heap.size; omega)
                      obtain ⟨in0, hin, hz0, hz1, hz2⟩ := info_parts info64
                      go_region_law ((refine step_append_lies _ (by rfl) (.tmp 67) (.tmp 76) 45 (by rfl) (w.heap.size + 2) 64 in0 _ 2 2 Tryd.underlying45 hin hz0 hz1 hz2 rfl (by omega) (.slice ao m cap) m (rCells ds) (by rfl) (Hown.out.alloc _).drew ⟨wo.heap.size, 0, none⟩ 1 1 [.int .u8 (s[i].toNat : Int), .int .u8 (s[i + 2].toNat : Int)] (by rfl) (by rfl) (c1_two _ _ _ _) (c2_two _ _ _) (by omega) (by unfold maxLen; omega) (by omega) (by simp; omega) (wo.heap.size + 1) (by simp) ?_; intro gg cap2 w1 hown1 hgrow hat hlt5; have hR := push4 Hbl.out Q4h.out Q6h.out Hown.out hgrow; have hc1 : w1.cell? ⟨w.heap.size + 1, 3, none⟩ = some (.slice ao m cap) := hR.2.1.2.1.2.2.2; have hf1 : w1.frozen? ⟨w.heap.size + 1, 3, none⟩ = false := hR.2.1.2.2.2.2.2))
                      all_goals
                        have hnx := Hinv.out.push Hseg.out Hok.out (by omega) (by omega) hR.1 hR.2.1 hR.2.2 hown1
                        have Hnx := hide hnx
                        clear hnx hR hown1 hgrow hat hc1 hf1
                        go_wp2
                        go_roundw
                        case rel => exact ⟨i + 3, _, _, _, _, by omega, by omega, by go_num, Hnx.out⟩
                        case measure => simp [intOf]; omega
                  · have hseg := seg_one s i k hlt2 hks (fun _ => h45)
                    have eb45 : ((s[i + 1].toNat : Int) == 45) = false := u8f h45
                    have Hseg := hide hseg
                    have Hok := hide hok1
                    clear hseg h45 hok1 d0 d1 d2 d3 g0 g1 g2 g3 c60 c61 c62 f60 f61 f62
                    go_wp2
                    have hlo : (wr.alloc (.cells #[.int .u8 (s[i].toNat : Int), .int .u8 (s[i].toNat : Int)] 64)).drew.cell? ⟨w.heap.size + 1, 3, none⟩ = some (.slice ao m cap) := by
                      refine Eq.trans ?_ c63
                      exact World.cell?_alloc_lt wr _ _ (by show w.heap.size + 1 < wr.heap.size; omega)
                    obtain ⟨in0, hin, hz0, hz1, hz2⟩ := info_parts info64
                    go_region_law ((refine step_append_lies _ (by rfl) (.tmp 82) (.tmp 90) 45 (by rfl) (w.heap.size + 2) 64 in0 _ 2 2 Tryd.underlying45 hin hz0 hz1 hz2 rfl (by omega) (.slice ao m cap) m (rCells ds) (by rfl) (Hown.out.alloc _).drew ⟨wr.heap.size, 0, none⟩ 1 1 [.int .u8 (s[i].toNat : Int), .int .u8 (s[i].toNat : Int)] (by rfl) (by rfl) (c1_two _ _ _ _) (c2_two _ _ _) (by omega) (by unfold maxLen; omega) (by omega) (by simp; omega) (wr.heap.size + 1) (by simp) ?_; intro gg cap2 w1 hown1 hgrow hat hlt5; have hR := push4 Hbl.out Q4h.out Q6h.out Hown.out hgrow; have hc1 : w1.cell? ⟨w.heap.size + 1, 3, none⟩ = some (.slice ao m cap) := hR.2.1.2.1.2.2.2; have hf1 : w1.frozen? ⟨w.heap.size + 1, 3, none⟩ = false := hR.2.1.2.2.2.2.2))
                    all_goals
                      have hnx := Hinv.out.push Hseg.out Hok.out (by omega) (by omega) hR.1 hR.2.1 hR.2.2 hown1
                      have Hnx := hide hnx
                      clear hnx hR hown1 hgrow hat hc1 hf1
                      go_wp2
                      go_roundw
                      case rel => exact ⟨i + 1, _, _, _, _, by omega, by omega, by go_num, Hnx.out⟩
                      case measure => simp [intOf]; omega
                · have hseg := seg_one s i k hlt2 hks (fun h => absurd h h2)
                  have Hseg := hide hseg
                  have Hok := hide hok1
                  clear hseg hok1 d0 d1 d2 d3 g0 g1 g2 g3 c60 c61 c62 f60 f61 f62
                  go_wp2
                  have hlo : (wr.alloc (.cells #[.int .u8 (s[i].toNat : Int), .int .u8 (s[i].toNat : Int)] 64)).drew.cell? ⟨w.heap.size + 1, 3, none⟩ = some (.slice ao m cap) := by
                    refine Eq.trans ?_ c63
                    exact World.cell?_alloc_lt wr _ _ (by show w.heap.size + 1 < wr.heap.size; omega)
                  obtain ⟨in0, hin, hz0, hz1, hz2⟩ := info_parts info64
                  go_region_law ((refine step_append_lies _ (by rfl) (.tmp 82) (.tmp 90) 45 (by rfl) (w.heap.size + 2) 64 in0 _ 2 2 Tryd.underlying45 hin hz0 hz1 hz2 rfl (by omega) (.slice ao m cap) m (rCells ds) (by rfl) (Hown.out.alloc _).drew ⟨wr.heap.size, 0, none⟩ 1 1 [.int .u8 (s[i].toNat : Int), .int .u8 (s[i].toNat : Int)] (by rfl) (by rfl) (c1_two _ _ _ _) (c2_two _ _ _) (by omega) (by unfold maxLen; omega) (by omega) (by simp; omega) (wr.heap.size + 1) (by simp) ?_; intro gg cap2 w1 hown1 hgrow hat hlt5; have hR := push4 Hbl.out Q4h.out Q6h.out Hown.out hgrow; have hc1 : w1.cell? ⟨w.heap.size + 1, 3, none⟩ = some (.slice ao m cap) := hR.2.1.2.1.2.2.2; have hf1 : w1.frozen? ⟨w.heap.size + 1, 3, none⟩ = false := hR.2.1.2.2.2.2.2))
                  all_goals
                    have hnx := Hinv.out.push Hseg.out Hok.out (by omega) (by omega) hR.1 hR.2.1 hR.2.2 hown1
                    have Hnx := hide hnx
                    clear hnx hR hown1 hgrow hat hc1 hf1
                    go_wp2
                    go_roundw
                    case rel => exact ⟨i + 1, _, _, _, _, by omega, by omega, by go_num, Hnx.out⟩
                    case measure => simp [intOf]; omega
              · obtain rfl : i = k := by omega
                have hds : ranges (seg s (a + 1) i) = ds := by rw [Hr1.out, seg_nil, ranges_nil, List.append_nil]
                by_cases hm0 : m = 0
                · have hres : firstEl (s.data.toList.drop a) = 0 := by
                    have he : seg s (a + 1) i = [] := by
                      cases hsg : seg s (a + 1) i with
                      | nil => rfl
                      | cons x y =>
                        rw [hsg, ranges_cons _ (by simp)] at hds
                        rw [← hds] at hr3
                        simp at hr3
                        omega
                    rw [Hfe.out, if_neg]
                    unfold setOk
                    rw [Ht.out, he]
                    simp
                  have Hres := hide hres
                  subst hm0
                  clear hres hds hr3
                  go_wp2
                  exact bodyPost_ret (v := .tuple #[.agg #[.int .i64 5, .int .u8 0, .bool false, .slice ao 0 cap], .int .i64 (-1)]) (by simp [results, Tryd.results50, go_sem, d0, d1, d2, d3]) rfl ⟨(((Hbl.out.setCell (by exact Nat.le_refl _) _).setCell (by exact Nat.le_refl _) _).setCell (by exact Nat.le_refl _) _).setCell (by exact Nat.le_refl _) _, Or.inl ⟨Hres.out, false, ao, 0, cap, rfl⟩⟩
                · have hmb : ((m : Int) == 0) = false := beq_eq_false_iff_ne.2 (by omega)
                  obtain ⟨ei1, ei2⟩ := Hei.out (i - a + 1) rfl
                  have hres : firstEl (s.data.toList.drop a) = i - a + 1 := by
                    rw [Hfe.out, if_pos]
                    unfold setOk
                    rw [Ht.out, hds, Hr2.out]
                    have : seg s (a + 1) i ≠ [] := by
                      intro he
                      rw [he, ranges_nil] at hds
                      rw [← hds] at hr3
                      simp at hr3
                      omega
                    cases hsg : seg s (a + 1) i with
                    | nil => exact absurd hsg this
                    | cons x y => rfl
                  have hneg : false = negOf ((s.data.toList.drop a).take (i - a + 1)) := by
                    unfold negOf
                    rw [if_pos ei2, ei1, Hp.out]
                  have hset : ds = setOf ((s.data.toList.drop a).take (i - a + 1)) := by
                    unfold setOf
                    rw [if_pos ei2, ei1, Ht.out, hds]
                  have Hres := hide hres
                  have Hneg := hide hneg
                  have Hset := hide hset
                  have Hm3 := hide hr3
                  clear hres hneg hset hds hr3 ei1 ei2
                  go_wp2
                  refine bodyPost_ret (v := .tuple #[.agg #[.int .i64 5, .int .u8 0, .bool false, .slice ao m cap], .int .i64 ((i : Int) + 1)]) (by simp [results, Tryd.results50, go_sem, d0, d1, d2, d3]) rfl ⟨(((Hbl.out.setCell (by exact Nat.le_refl _) _).setCell (by exact Nat.le_refl _) _).setCell (by exact Nat.le_refl _) _).setCell (by exact Nat.le_refl _) _, Or.inr ⟨i - a + 1, ao, m, cap, Hres.out, by omega, ?_, ?_⟩⟩
                  · rw [← Hneg.out, show (a : Int) + ((i - a + 1 : Nat) : Int) = (i : Int) + 1 by omega]
                  · rw [← Hset.out, Hm3.out]
                    exact ownsRow_setCell_below (ownsRow_setCell_below (ownsRow_setCell_below (ownsRow_setCell_below Hown.out (by show w.heap.size < w.heap.size + 2; omega) _) (by show w.heap.size < w.heap.size + 2; omega) _) (by show w.heap.size < w.heap.size + 2; omega) _) (by show w.heap.size < w.heap.size + 2; omega) _
          · have hres : firstEl (s.data.toList.drop a) = 0 := by
              rw [Hfe.out, if_neg]
              have he : seg s (a + 1) k = [] := by unfold seg; rw [show k - (a + 1) = 0 by omega]; rfl
              rw [he]
              decide
            have Hres := hide hres
            obtain ⟨hl6, ⟨c60, c61, c62, c63⟩, f60, f61, f62, f63⟩ := hq6
            obtain ⟨hl4, ⟨d0, d1, d2, d3⟩, g0, g1, g2, g3⟩ := hq4
            clear hres e33 hp ht
            go_wp2
            refine wp_loop_once ?_
            go_wp2
            exact bodyPost_ret (v := .tuple #[.agg #[.int .i64 5, .int .u8 0, .bool false, .slice none 0 0], .int .i64 (-1)]) (by simp [results, Tryd.results50, go_sem, d0, d1, d2, d3]) rfl ⟨(((hbw.setCell (by exact Nat.le_refl _) _).setCell (by exact Nat.le_refl _) _).setCell (by exact Nat.le_refl _) _).setCell (by exact Nat.le_refl _) _, Or.inl ⟨Hres.out, false, none, 0, 0, rfl⟩⟩
      · have eb : ((s[k].toNat : Int) != 93) = true := (u8ni s[k] 93).trans (by simpa using h93)
        have hno2 : ∀ j (hj : j < s.size), a + 1 ≤ j → j < k + 1 → s[j] ≠ 93 := fun j hj h1 h2 => by
          by_cases hjk : j = k
          · subst hjk; exact h93
          · exact Hno.out j hj h1 (by omega)
        have Hno2 := hide hno2
        clear hno2 h93
        go_wp2
        go_round
        case rel => exact ⟨k + 1, by omega, by omega, by go_num, Hno2.out⟩
        case measure => simp [intOf]; omega
    · have hres := Hnone.out (fun j hj h1 => Hno.out j hj h1 (by omega))
      have Hres := hide hres
      obtain ⟨hl6, ⟨c60, c61, c62, c63⟩, f60, f61, f62, f63⟩ := hq6
      obtain ⟨hl4, ⟨d0, d1, d2, d3⟩, g0, g1, g2, g3⟩ := hq4
      clear hres
      go_wp2
      exact bodyPost_ret (v := .tuple #[.agg #[.int .i64 5, .int .u8 0, .bool false, .slice none 0 0], .int .i64 (-1)]) (by simp [results, Tryd.results50, go_sem, d0, d1, d2, d3]) rfl ⟨(((hbw.setCell (by exact Nat.le_refl _) _).setCell (by exact Nat.le_refl _) _).setCell (by exact Nat.le_refl _) _).setCell (by exact Nat.le_refl _) _, Or.inl ⟨Hres.out, false, none, 0, 0, rfl⟩⟩

end Go.Proofs.YtlabdaomgogflaaDoor
