/- Walks of layer 7's program: the offsets of a trigram, sorted, each once. -/
import Derived.Test.YtdneoeiggebijaaU6
import Derived.Test.YtdneoeiggebijaaE2
import Derived.Test.YtdneoeiggebijaaCn
import Derived.Lib.RowBridge
namespace Go.Proofs.Ytdneoeiggebijaa
open Go.RowKit Go.Shelf Go.Sort

/-- The elements in increasing order, each once. -/
def sortU (l : List Int) : List Int := Lib.compact (l.mergeSort fun x y => decide (x ≤ y))
theorem compact_up (d : Array Int) (hs : ∀ i j, i < j → j < d.size → d[i]! ≤ d[j]!) : ∀ m, m ≤ d.size →
    Up (Lib.compactUpTo d m) ∧ (∀ x, x ∈ Lib.compactUpTo d m ↔ ∃ j, j < m ∧ d[j]! = x)
  | 0, _ => ⟨by simp [Lib.compactUpTo]; exact up_nil, fun x => by simp [Lib.compactUpTo]⟩
  | m + 1, hm => by
    obtain ⟨h1, h2⟩ := compact_up d hs m (by omega)
    rw [Lib.compactUpTo_succ]
    by_cases hk : Lib.keeps d m = true
    · rw [if_pos hk]
      have hlt : ∀ j, j < m → d[j]! < d[m]! := by
        intro j hj
        have hk' : m = 0 ∨ d[m]! ≠ d[m - 1]! := by simpa [Lib.keeps] using hk
        have hne : d[m]! ≠ d[m - 1]! := by
          rcases hk' with h | h
          · omega
          · exact h
        have a1 := hs (m - 1) m (by omega) (by omega)
        have a2 : d[j]! ≤ d[m - 1]! := by
          by_cases he : j = m - 1
          · rw [he]; exact Int.le_refl _
          · exact hs j (m - 1) (by omega) (by omega)
        omega
      refine ⟨?_, fun x => ?_⟩
      · unfold Up at *
        rw [List.pairwise_append]
        refine ⟨h1, by simp, fun a ha b hb => ?_⟩
        obtain ⟨j, hj, rfl⟩ := (h2 a).1 ha
        rw [List.mem_singleton] at hb
        subst hb
        exact hlt j hj
      · rw [List.mem_append, h2, List.mem_singleton]
        constructor
        · rintro (⟨j, hj, e⟩ | e)
          · exact ⟨j, by omega, e⟩
          · exact ⟨m, by omega, e.symm⟩
        · rintro ⟨j, hj, e⟩
          by_cases hjm : j = m
          · subst hjm; exact Or.inr e.symm
          · exact Or.inl ⟨j, by omega, e⟩
    · rw [if_neg hk, List.append_nil]
      refine ⟨h1, fun x => ?_⟩
      rw [h2]
      constructor
      · rintro ⟨j, hj, e⟩
        exact ⟨j, by omega, e⟩
      · rintro ⟨j, hj, e⟩
        by_cases hjm : j = m
        · subst hjm
          have hk' : ¬ (j = 0 ∨ d[j]! ≠ d[j - 1]!) := by simpa [Lib.keeps] using hk
          have h0 : j ≠ 0 := fun h => hk' (Or.inl h)
          have he : d[j]! = d[j - 1]! := Classical.not_not.1 fun h => hk' (Or.inr h)
          exact ⟨j - 1, by omega, by rw [← he, e]⟩
        · exact ⟨j, by omega, e⟩
theorem sortU_spec (l : List Int) : Up (sortU l) ∧ ∀ x, x ∈ sortU l ↔ x ∈ l := by
  have hp : (l.mergeSort fun x y => decide (x ≤ y)).Pairwise fun x y => decide (x ≤ y) = true := merge_sorted l
  obtain ⟨s, hs⟩ : ∃ s, (l.mergeSort fun x y => decide (x ≤ y)) = s := ⟨_, rfl⟩
  have hm : ∀ x, x ∈ s ↔ x ∈ l := fun x => by rw [← hs]; exact List.mem_mergeSort
  unfold sortU
  rw [hs] at hp ⊢
  have h := compact_up s.toArray (fun i j hij hj => by
    have hj' : j < s.length := by simpa using hj
    have := List.pairwise_iff_getElem.1 hp i j (by omega) hj' hij
    simp [getElem!_pos, show i < s.length by omega, hj']
    simpa using this) s.length (by simp)
  refine ⟨h.1, fun x => ?_⟩
  show x ∈ Lib.compactUpTo s.toArray s.length ↔ _
  rw [h.2, ← hm]
  constructor
  · rintro ⟨j, hj, rfl⟩
    simp [getElem!_pos, hj]
  · intro hx
    obtain ⟨j, hj, rfl⟩ := List.getElem_of_mem hx
    exact ⟨j, hj, by simp [getElem!_pos, hj]⟩
theorem up_sort (l : List Int) : Up (sortU l) := (sortU_spec l).1
theorem mem_sort (l : List Int) (x : Int) : x ∈ sortU l ↔ x ∈ l := (sortU_spec l).2 x
theorem sortU_len (l : List Int) : (sortU l).length ≤ l.length := by
  have := Lib.compact_length_le (l.mergeSort fun x y => decide (x ≤ y))
  rw [List.length_mergeSort] at this
  exact this

theorem sortU_is (l : List Int) : sortU l = Lib.compact (srt l) := rfl
theorem sortU_setP (l : List Int) : sortU (l.filter fun z => decide (0 ≤ z)) = setP l := up_ext _ _ (up_sort _) (up_setP _) fun m => by
  rw [mem_sort, mem_setP]
  simp
theorem atP_len (c : Int) (N : Nat) : ∀ gs : List (Int × List Int), (∀ g ∈ gs, g.2.length ≤ N) → (atS gs c).length ≤ N
  | [], _ => Nat.zero_le _
  | g :: gs, h => by
    show (if g.1 = c then g.2 else atS gs c).length ≤ N
    split
    · exact h g (by simp)
    · exact atP_len c N gs fun g' hg => h g' (by simp [hg])
theorem atP_in (c : Int) (z : Int) : ∀ gs : List (Int × List Int), z ∈ atS gs c → ∃ g ∈ gs, z ∈ g.2
  | [], h => by simp [atS] at h
  | g :: gs, h => by
    have h' : z ∈ (if g.1 = c then g.2 else atS gs c) := h
    split at h'
    · exact ⟨g, by simp, h'⟩
    · obtain ⟨g', hg, hz⟩ := atP_in c z gs h'
      exact ⟨g', by simp [hg], hz⟩

theorem compact45 (v : Value) (l : List Int) (B : Nat) (w : World) (h : Own w B 3 v (numCells l)) (hn : l.length ≤ 1000000) :
    Calls Try.prog 45 #[v] w fun e w' => ∃ v', e = .returned v' ∧ Own w' B 3 v' (numCells (Lib.compact l)) ∧ Below B w w' := by
  obtain ⟨n, hl⟩ : ∃ n, l.length = n := ⟨_, rfl⟩
  unfold Own at h
  rw [num_len, hl, num_map] at h
  rcases h.2 with ⟨rfl, rfl⟩ | ⟨g, cap, cur, rfl, hbase, hb, h1, h2, h3, h4⟩
  · obtain rfl : l = [] := List.eq_nil_of_length_eq_zero hl
    refine (Try.slices_Compact_int_empty none 0 w).mono ?_
    rintro e w' ⟨rfl, rfl⟩
    exact ⟨_, rfl, World.ownsRow_nil _ _ _ _, Below.refl _ _⟩
  · subst hl
    have hH : Holds (Value.int .i64) w g 0 l.toArray := holds_of_blockI hb (by simpa using h4)
    have hle := Lib.compact_length_le l
    refine (Try.slices_Compact_int g 0 cap l w hH (by omega) h1).mono ?_
    rintro e w' ⟨rfl, q, rfl⟩
    have hc := Lib.ownsRow_putRow (q := q) (k := (Lib.compact l).length) (ys := Lib.compact l ++ List.replicate (l.length - (Lib.compact l).length) 0) h (by simp; omega) (by omega)
    rw [List.take_left] at hc
    exact ⟨_, rfl, by unfold Own; rw [num_len]; exact hc, Lib.below_putRow (Below.refl B w) hbase⟩

def pos (l : List Int) : List Int := l.filter fun z => decide (0 ≤ z)
theorem pos_yes (l : List Int) (k : Nat) (z : Int) (hz : l[k]? = some z) (h : 0 ≤ z) : pos (l.take (k + 1)) = pos (l.take k) ++ [z] := by
  unfold pos
  rw [List.take_succ_eq_append_getElem (List.getElem?_eq_some_iff.1 hz).1, (List.getElem?_eq_some_iff.1 hz).2, List.filter_append]
  simp [h]
theorem pos_no (l : List Int) (k : Nat) (z : Int) (hz : l[k]? = some z) (h : ¬ 0 ≤ z) : pos (l.take (k + 1)) = pos (l.take k) := by
  unfold pos
  rw [List.take_succ_eq_append_getElem (List.getElem?_eq_some_iff.1 hz).1, (List.getElem?_eq_some_iff.1 hz).2, List.filter_append]
  simp [h]
theorem pos_len (l : List Int) (k : Nat) : (pos (l.take k)).length ≤ k := Nat.le_trans (List.length_filter_le _ _) (by rw [List.length_take]; omega)

set_option maxRecDepth 20000 in
set_option maxHeartbeats 1600000 in
theorem offs34 (A : Option Addr) (n c : Nat) (gs : List (Int × List Int)) (code : Int) (w : World) (h : GrS w A n c gs) (hb : ∀ g ∈ gs, g.2.length ≤ 1000) :
    Calls Try.prog 34 #[.slice A n c, .int .i64 code] w (GrewI w (setP (atS gs code))) := by
  obtain ⟨i0, hi, hz0, hz1, hz2⟩ := info_parts infoI
  have hal := atP_len code 1000 gs hb
  have hset := sortU_setP (atS gs code)
  rw [sortU_is] at hset
  have Hat := hide (fun W (hg : GrS W A n c gs) => at43 A n c gs code W hg fun g hg => Nat.le_trans (hb g hg) (by decide))
  have H := hide h
  obtain ⟨l, hl⟩ : ∃ l, atS gs code = l := ⟨_, rfl⟩
  rw [hl] at hal hset Hat ⊢
  have Hset := hide hset
  clear h hb hl hset
  go_enter Try.func34, Try.ntmps34
  go_wp2_with fail
  with_reducible refine (Hat.out _ H.out).mono ?_
  rintro e w1 ⟨A1, n1, c1, rfl, hs1, hb1⟩
  have hn1 : l.length = n1 := hs1.nlen
  have hnc1 := hs1.1
  have hcc1 := hs1.2.1
  have hL1 : n1 ≤ 1000 := by omega
  have S1 := hide hs1
  have B1 := hide hb1
  have Hn1 := hide hn1
  clear hs1 hb1 hn1 Hat hal
  go_wp2_with fail
  go_loopw [5, 12] (fun v x wr => ∃ k : Nat, k ≤ n1 ∧ x = .int .i64 (k : Int) ∧ Own wr w1.heap.size 3 v (numCells (pos (l.take k))) ∧ Below w1.heap.size w1 wr) (fun _ x _ => n1 - (intOf x).toNat)
  case atStart => exact ⟨0, Nat.zero_le _, rfl, World.ownsRow_nil _ _ _ _, Below.refl _ _⟩
  case round =>
    obtain ⟨k, hk, rfl, ho, hb⟩ := hrel
    obtain ⟨w2, hw2⟩ : ∃ w2, w2 = wr := ⟨wr, rfl⟩
    subst hw2
    have Ho := hide ho
    have B := hide hb
    have hsz := hb.size
    by_cases hlt : k < n1
    · obtain ⟨ad, z, rfl, hz, hcell⟩ := num_cell (S1.out.below hb).reads hlt
      by_cases hz0 : 0 ≤ z
      · have hd : decide (z ≥ 0) = true := decide_eq_true hz0
        have hll : (numCells (pos (l.take k))).length ≤ 1000 := by rw [num_len]; have := pos_len l k; omega
        have E := hide (show numCells (pos (l.take k)) ++ [.int .i64 z] = numCells (pos (l.take (k + 1))) by rw [pos_yes l k z hz hz0, num_app]; rfl)
        clear ho hb hz hz0
        go_wp2_with (first
          | (at_builtin; refine wp_push rfl (.tmp 18) (.tmp 20) 24 rfl 3 i0 (.int .i64 0) 8 Try.underlying24 hi (by assumption) hz1 hz2 rfl w1.heap.size _ (numCells (pos (l.take k))) rfl _ _ rfl Ho.out.src hsz _ rfl rfl (by omega) (by unfold maxLen; omega) ?_; intro v' w5 ho5 hb5)
          | fail)
        rw [E.out] at ho5
        have O5 := hide ho5
        have B5 := hide (B.out.trans hb5)
        clear ho5 hb5
        go_roundw
        case rel => exact ⟨k + 1, by omega, by go_num, O5.out, B5.out⟩
        case measure => simp [intOf]; omega
      · have hd : decide (z ≥ 0) = false := decide_eq_false (by omega)
        have E := hide (pos_no l k z hz hz0)
        clear ho hb hz hz0
        go_wp2
        go_roundw
        case rel => exact ⟨k + 1, by omega, by go_num, by rw [E.out]; exact Ho.out, B.out⟩
        case measure => simp [intOf]; omega
    · have hob := ho
      rw [List.take_of_length_le (by rw [Hn1.out]; omega)] at hob
      have hpl : (pos l).length ≤ 1000 := Nat.le_trans (List.length_filter_le _ _) (by rw [Hn1.out]; omega)
      have Hob := hide hob
      clear ho hb hob
      go_wp2_with fail
      with_reducible refine (sort44 _ (pos l) w1.heap.size _ Hob.out (by omega)).mono ?_
      rintro e w6 ⟨rfl, ho6, hb6⟩
      have O6 := hide ho6
      have B6 := hide (B.out.trans hb6)
      clear ho6 hb6
      go_wp2_with fail
      with_reducible refine (compact45 _ (srt (pos l)) w1.heap.size _ O6.out (by rw [srt_len]; omega)).mono ?_
      rintro e w7 ⟨v7, rfl, ho7, hb7⟩
      have ho7' : Own w7 w1.heap.size 3 v7 (numCells (setP l)) := by rw [← Hset.out]; exact ho7
      have O7 := hide (ho7'.mono B1.out.size)
      have B7 := hide (B1.out.trans ((B6.out.trans hb7).mono B1.out.size))
      clear ho7 ho7' hb7
      go_wp2
      go_ret
      exact ⟨_, rfl, O7.out, B7.out⟩

/-- l = l[1:] -/
theorem Sl.tail1 {w : World} {A : Option Addr} {n c : Nat} {l l1 : List Int} {x : Int} (h : Sl w A n c (numCells l)) (hl : l = x :: l1) (h0 : 0 < n) (hc : c = 1) : Sl w A 0 0 (numCells l1) := by
  have hn := h.nlen
  have hnc := h.1
  subst hl
  have : l1 = [] := List.eq_nil_of_length_eq_zero (by simp at hn; omega)
  subst this
  exact ⟨Nat.le_refl _, by omega, fun _ => rfl, rfl, fun k u hk => by simp [numCells] at hk⟩
theorem Sl.tail2 {w : World} {ad : Addr} {n c : Nat} {l l1 : List Int} {x : Int} (h : Sl w (some ad) n c (numCells l)) (hl : l = x :: l1) (h0 : 0 < n) (hc : ¬ c = 1) : Sl w (some ⟨ad.block, ad.off + 1, none⟩) (n - 1) (c - 1) (numCells l1) := by
  have hn := h.nlen
  have hnc := h.1
  subst hl
  have := h.winI (k := 1) (m := n) (by omega) (Nat.le_refl _) (by omega)
  rw [show (List.drop 1 (x :: l1)).take (n - 1) = l1 by rw [List.drop_succ_cons, List.drop_zero]; exact List.take_of_length_le (by simp at hn; omega)] at this
  exact this

end Go.Proofs.Ytdneoeiggebijaa
