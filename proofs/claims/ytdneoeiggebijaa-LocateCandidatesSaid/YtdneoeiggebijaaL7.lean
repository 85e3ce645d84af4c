/- Layer 7: the laws on folding first, on what is needed, on occurrences from the left, over the contracts. -/
import Derived.Test.YtdneoeiggebijaaL6
import Derived.Test.YtdneoeiggebijaaU4
namespace Go.Proofs.Ytdneoeiggebijaa
open Go.RowKit

theorem foldS_list (s : ByteArray) : (foldS s).data.toList = s.data.toList.map fld := by
  show (s.data.toList.map fld).toArray.toList = _
  simp

set_option maxRecDepth 20000 in
set_option maxHeartbeats 1600000 in
theorem law8 (C : Cs) (s t : ByteArray) (w : World) (hs : s.size ≤ 9223372036854775807) (ht : t.size ≤ 9223372036854775807) :
    Calls Try.prog 8 #[.string s, .string t] w fun e w' => e = .returned (.bool true) ∧ Below w.heap.size w w' := by
  have CC := hide C
  clear C
  go_enter Try.func8, Try.ntmps8
  go_wp2_with fail
  refine (alive10 CC.out _).mono ?_
  rintro e w1 ⟨rfl, h1⟩
  have B1 := hide h1
  clear h1
  by_cases h1 : 400 < s.size
  · go_wp2
    go_ret
    exact ⟨rfl, B1.out⟩
  · by_cases h2 : 400 < t.size
    · go_wp2
      go_ret
      exact ⟨rfl, B1.out⟩
    · obtain ⟨L, hL⟩ : ∃ L, findS true s.data.toList t.data.toList = L := ⟨_, rfl⟩
      obtain ⟨x, hx⟩ : ∃ x, countS true s.data.toList t.data.toList = x := ⟨_, rfl⟩
      have HL := hide hL
      have HX := hide hx
      have HL2 := hide (show findS false (foldS s).data.toList (foldS t).data.toList = L by rw [foldS_list, foldS_list, ← find_fold]; exact hL)
      have HX2 := hide (show countS false (foldS s).data.toList (foldS t).data.toList = x by rw [foldS_list, foldS_list, ← count_fold]; exact hx)
      have q1 := foldS_size s
      have q2 := foldS_size t
      have z1 := hide (show (foldS s).size ≤ 1000 by omega)
      have z2 := hide (show (foldS t).size ≤ 1000 by omega)
      clear hL hx q1 q2
      go_wp2_with fail
      with_reducible refine (rfold24 s _ (by omega)).mono ?_
      rintro e w2 ⟨rfl, h1⟩
      have B2 := hide (bgo B1.out h1)
      clear h1 B1
      go_wp2_with fail
      with_reducible refine (rfold24 t _ (by omega)).mono ?_
      rintro e w3 ⟨rfl, h1⟩
      have B3 := hide (bgo B2.out h1)
      clear h1 B2
      go_wp2_with fail
      with_reducible refine (CC.out.find s t true _ (by omega) (by omega)).mono ?_
      rw [HL.out]
      rintro e w4 ⟨A1, n1, c1, rfl, h2, h1⟩
      have B4 := hide (bgo B3.out h1)
      have S4 := hide h2
      clear h1 h2 B3
      go_wp2_with fail
      with_reducible refine (CC.out.find (foldS s) (foldS t) false _ z1.out z2.out).mono ?_
      rw [HL2.out]
      rintro e w5 ⟨A2, n2, c2, rfl, h2, h1⟩
      have B5 := hide (bgo B4.out h1)
      have S5 := hide (S4.out.below h1)
      have T5 := hide h2
      clear h1 h2 B4 S4
      go_wp2_with fail
      with_reducible refine (rsame11 A1 A2 n1 c1 n2 c2 L _ S5.out T5.out).mono ?_
      rintro e w6 ⟨rfl, h1⟩
      have B6 := hide (B5.out.trans (h1.below _))
      clear h1 B5 S5 T5
      go_wp2_with fail
      with_reducible refine (CC.out.count s t true _ (by omega) (by omega)).mono ?_
      rw [HX.out]
      rintro e w7 ⟨rfl, h1⟩
      have B7 := hide (bgo B6.out h1)
      clear h1 B6
      go_wp2_with fail
      with_reducible refine (CC.out.count (foldS s) (foldS t) false _ z1.out z2.out).mono ?_
      rw [HX2.out]
      rintro e w8 ⟨rfl, h1⟩
      have B8 := hide (bgo B7.out h1)
      clear h1 B7
      go_wp2
      go_ret
      exact ⟨ret_bool (by simp), B8.out⟩

theorem grS_two (m B : Nat) (l : List Int) (h : ∀ q ∈ l, 0 ≤ q ∧ q ≤ (B : Int)) : 0 ≤ (grS m l).2 ∧ (grS m l).2 ≤ (B : Int) + (m : Int) := by
  have key : ∀ (l : List Int) (p : Nat × Int), (∀ q ∈ l, 0 ≤ q ∧ q ≤ (B : Int)) → (0 ≤ p.2 ∧ p.2 ≤ (B : Int) + (m : Int)) → 0 ≤ (l.foldl (gr m) p).2 ∧ (l.foldl (gr m) p).2 ≤ (B : Int) + (m : Int) := by
    intro l
    induction l with
    | nil => intro p _ hp; exact hp
    | cons q l ih =>
      intro p hq hp
      rw [List.foldl_cons]
      refine ih _ (fun x hx => hq x (by simp [hx])) ?_
      have := hq q (by simp)
      unfold gr
      split
      · constructor
        · show 0 ≤ q + (m : Int); omega
        · show q + (m : Int) ≤ _; omega
      · exact hp
  exact key l (0, 0) h (by constructor <;> (show _ ≤ _; simp; try omega))

set_option maxRecDepth 20000 in
set_option maxHeartbeats 1600000 in
theorem law9 (C : Cs) (s t : ByteArray) (f : Bool) (w : World) (hs : s.size ≤ 9223372036854775807) (ht : t.size ≤ 9223372036854775807) :
    Calls Try.prog 9 #[.string s, .string t, .bool f] w fun e w' => e = .returned (.bool true) ∧ Below w.heap.size w w' := by
  have CC := hide C
  clear C
  go_enter Try.func9, Try.ntmps9
  go_wp2_with fail
  refine (alive10 CC.out _).mono ?_
  rintro e w1 ⟨rfl, h1⟩
  have B1 := hide h1
  clear h1
  by_cases h1 : 400 < s.size
  · go_wp2
    go_ret
    exact ⟨rfl, B1.out⟩
  · by_cases h2 : 400 < t.size
    · go_wp2
      go_ret
      exact ⟨rfl, B1.out⟩
    · obtain ⟨L, hL⟩ : ∃ L, findS f s.data.toList t.data.toList = L := ⟨_, rfl⟩
      have ls := size_list s
      have lt := size_list t
      have HX := hide (show countS f s.data.toList t.data.toList = (grS t.size L).1 by rw [← hL, ← lt]; exact (apart _ _ _).symm)
      have Hin := hide (show ∀ q ∈ L, 0 ≤ q ∧ q ≤ (s.size : Int) from fun q hq => by
        rw [← hL] at hq
        obtain ⟨k, hk, rfl⟩ := (mem_find _ _ _ _).1 hq
        have := hk.1
        omega)
      have HL := hide hL
      have hLl := findN_len f s.data.toList t.data.toList (s.data.toList.length + 1)
      rw [show findN f s.data.toList t.data.toList (s.data.toList.length + 1) = L from hL, ls] at hLl
      clear hL ls lt
      go_wp2_with fail
      with_reducible refine (CC.out.find s t f _ (by omega) (by omega)).mono ?_
      rw [HL.out]
      rintro e w2 ⟨A1, n1, c1, rfl, h2, h1⟩
      have B2 := hide (bgo B1.out h1)
      have S2 := hide h2
      have hn := h2.nlen
      have Hlen := hide hn
      have hn1 : n1 ≤ 401 := by omega
      have hnc := h2.1
      have hcc := h2.2.1
      clear h1 h2 B1 hn hLl
      go_wp2
      go_loop [8, 9, 10] (fun a b x => ∃ (i p : Nat) (q : Int), i ≤ n1 ∧ x = .int .i64 (i : Int) ∧ a = .int .i64 (p : Int) ∧ b = .int .i64 q ∧ grS t.size (L.take i) = (p, q)) (fun _ _ x => n1 - (intOf x).toNat)
      case atStart => exact ⟨0, 0, 0, Nat.zero_le _, rfl, rfl, rfl, rfl⟩
      case round =>
        obtain ⟨i, p, q, hi, rfl, rfl, rfl, hm⟩ := hrel
        have hp1 := grS_le t.size (L.take i)
        have hq1 := grS_two t.size s.size (L.take i) fun x hx => Hin.out x (List.mem_of_mem_take hx)
        rw [hm, List.length_take] at hp1
        rw [hm] at hq1
        have hp2 : p ≤ 1000 := by
          have h3 : p ≤ min i L.length := hp1
          omega
        have hq2 : 0 ≤ q ∧ q ≤ (s.size : Int) + (t.size : Int) := hq1
        have Hm := hide hm
        clear hp1 hq1
        by_cases hlt : i < n1
        · obtain ⟨ad, z, rfl, hz, hcell⟩ := num_cell S2.out.reads hlt
          have hzr := Hin.out z (List.mem_of_getElem? hz)
          have hz0 : decide (z < 0) = false := decide_eq_false (by omega)
          have hz1 : decide ((s.size : Int) < z) = false := decide_eq_false (by omega)
          have hst : grS t.size (L.take (i + 1)) = gr t.size (p, q) z := by rw [take_at L i z hz, grS_snoc, hm]
          by_cases hge : q ≤ z
          · have Hn := hide (show grS t.size (L.take (i + 1)) = (p + 1, z + (t.size : Int)) by rw [hst]; unfold gr; rw [if_pos hge])
            clear hm hz hst
            go_wp2
            go_round
            case rel => exact ⟨i + 1, p + 1, z + (t.size : Int), by omega, by go_num, by go_num, rfl, Hn.out⟩
            case measure => simp [intOf]; omega
          · have Hn := hide (show grS t.size (L.take (i + 1)) = (p, q) by rw [hst]; unfold gr; rw [if_neg hge])
            clear hm hz hst
            go_wp2
            go_round
            case rel => exact ⟨i + 1, p, q, by omega, by go_num, rfl, rfl, Hn.out⟩
            case measure => simp [intOf]; omega
        · rw [List.take_of_length_le (by rw [Hlen.out]; omega)] at hm
          have Hx := hide (show countS f s.data.toList t.data.toList = p by rw [HX.out, hm])
          clear hm
          go_wp2_with fail
          with_reducible refine (CC.out.count s t f _ (by omega) (by omega)).mono ?_
          rw [Hx.out]
          rintro e w3 ⟨rfl, h1⟩
          have B3 := hide (bgo B2.out h1)
          clear h1
          go_wp2
          go_ret
          exact ⟨ret_bool (by simp), B3.out⟩

theorem cat_list (a b : ByteArray) : (a ++ b).data.toList = a.data.toList ++ b.data.toList := by simp
theorem cat_size (a b : ByteArray) : (a ++ b).size = a.size + b.size := by simp
theorem in_take (L : List Int) (i : Nat) (z x : Int) (hz : L[i]? = some z) : decide (x ∈ L.take (i + 1)) = (decide (x ∈ L.take i) || (z == x)) := by
  rw [take_at L i z hz]
  by_cases h : x ∈ L.take i
  · simp [h]
  · by_cases h2 : x = z
    · subst h2; simp
    · have h3 : ¬ z = x := fun e => h2 e.symm
      simp [h, h2, h3]

set_option maxRecDepth 20000 in
set_option maxHeartbeats 1600000 in
theorem law7 (C : Cs) (a t b : ByteArray) (w : World) (ha : a.size ≤ 9223372036854775807) (ht : t.size ≤ 9223372036854775807) (hb : b.size ≤ 9223372036854775807) :
    Calls Try.prog 7 #[.string a, .string t, .string b] w fun e w' => e = .returned (.bool true) ∧ Below w.heap.size w w' := by
  have CC := hide C
  clear C
  go_enter Try.func7, Try.ntmps7
  go_wp2_with fail
  refine (alive10 CC.out _).mono ?_
  rintro e w1 ⟨rfl, h1⟩
  have B1 := hide h1
  clear h1
  by_cases h1 : 40 < a.size
  · go_wp2
    go_ret
    exact ⟨rfl, B1.out⟩
  by_cases h2 : 40 < t.size
  · go_wp2
    go_ret
    exact ⟨rfl, B1.out⟩
  by_cases h3 : 40 < b.size
  · go_wp2
    go_ret
    exact ⟨rfl, B1.out⟩
  obtain ⟨F, hF⟩ : ∃ F, foldS t = F := ⟨_, rfl⟩
  have hFs := foldS_size t
  have hFl := foldS_list t
  rw [hF] at hFs hFl
  have hFm : F.size ≤ 40 := by omega
  have hcs : (a ++ F).size ≤ 80 := by rw [cat_size]; omega
  have hcs2 : (a ++ F ++ b).size ≤ 120 := by rw [cat_size, cat_size]; omega
  have hcl : (a ++ F ++ b).data.toList = a.data.toList ++ t.data.toList.map fld ++ b.data.toList := by rw [cat_list, cat_list, hFl]
  have hoc := occ_mid a.data.toList t.data.toList b.data.toList
  have hnd := need a.data.toList t.data.toList b.data.toList
  rw [← hcl] at hoc hnd
  have la := size_list a
  have lz := size_list (a ++ F ++ b)
  obtain ⟨L, hL⟩ : ∃ L, findS true (a ++ F ++ b).data.toList t.data.toList = L := ⟨_, rfl⟩
  have Hmem := hide (show (a.size : Int) ∈ L by rw [← hL]; exact (mem_find _ _ _ _).2 ⟨a.data.toList.length, hoc, by rw [la]⟩)
  have HL := hide hL
  have Hnd := hide hnd
  have hLl := findN_len true (a ++ F ++ b).data.toList t.data.toList ((a ++ F ++ b).data.toList.length + 1)
  rw [show findN true (a ++ F ++ b).data.toList t.data.toList ((a ++ F ++ b).data.toList.length + 1) = L from hL, lz] at hLl
  have Hsz2 := hide hcs2
  have hol := of_len (a ++ F ++ b).data.toList
  rw [lz] at hol
  have Hol := hide hol
  have hrf := rfold24 t
  rw [hF] at hrf
  have Hrf := hide hrf
  have hL2 : L.length ≤ 121 := by omega
  clear hF hFs hFl hcl hoc hnd la lz hL hLl hol hcs2 hcs hrf
  go_wp2_with fail
  with_reducible refine (Hrf.out _ (by omega)).mono ?_
  rintro e w2 ⟨rfl, h1⟩
  have B2 := hide (bgo B1.out h1)
  clear h1 B1
  go_wp2_with fail
  with_reducible refine (CC.out.find (a ++ F ++ b) t true _ (by have := Hsz2.out; omega) (by omega)).mono ?_
  rw [HL.out]
  rintro e w3 ⟨A1, n1, c1, rfl, h2, h1⟩
  have B3 := hide (bgo B2.out h1)
  have S3 := hide h2
  have Hlen := hide h2.nlen
  have hn1 : n1 ≤ 121 := by have := h2.nlen; omega
  have hnc := h2.1
  have hcc := h2.2.1
  clear h1 h2 B2 hL2
  go_wp2
  go_loop [9, 10] (fun x y => ∃ i : Nat, i ≤ n1 ∧ x = .bool (decide ((a.size : Int) ∈ L.take i)) ∧ y = .int .i64 (i : Int)) (fun _ y => n1 - (intOf y).toNat)
  case atStart => exact ⟨0, Nat.zero_le _, by simp, rfl⟩
  case round =>
    obtain ⟨i, hi, rfl, rfl⟩ := hrel
    by_cases hlt : i < n1
    · obtain ⟨ad, z, rfl, hz, hcell⟩ := num_cell S3.out.reads hlt
      have hst := in_take L i z (a.size : Int) hz
      clear hz
      cases hin : decide ((a.size : Int) ∈ L.take i) with
      | true =>
        have Hn := hide (show decide ((a.size : Int) ∈ L.take (i + 1)) = true by rw [hst, hin]; rfl)
        clear hst hin
        go_wp2
        go_round
        case rel => exact ⟨i + 1, by omega, by rw [Hn.out], by go_num⟩
        case measure => simp [intOf]; omega
      | false =>
        obtain ⟨q, hq⟩ : ∃ q, (z == (a.size : Int)) = q := ⟨_, rfl⟩
        have Hn := hide (show decide ((a.size : Int) ∈ L.take (i + 1)) = q by rw [hst, hin, hq]; rfl)
        clear hst hin
        go_wp2
        go_round
        case rel => exact ⟨i + 1, by omega, by rw [Hn.out], by go_num⟩
        case measure => simp [intOf]; omega
    · have hall : decide ((a.size : Int) ∈ L.take i) = true := by
        rw [List.take_of_length_le (by rw [Hlen.out]; omega)]
        exact decide_eq_true Hmem.out
      rw [hall]
      clear hall
      go_wp2_with fail
      with_reducible refine (of25 (a ++ F ++ b) _ (by have := Hsz2.out; omega)).mono ?_
      rintro e w4 ⟨A2, n2, c2, rfl, h2, h1⟩
      have B4 := hide (bgo B3.out h1)
      have S4 := hide h2
      have hn2 : n2 ≤ 1000 := by
        have h3 := h2.nlen
        have h4 := Hol.out
        have h5 := Hsz2.out
        omega
      clear h1 h2
      go_wp2_with fail
      with_reducible refine (CC.out.poss A2 n2 c2 _ t _ S4.out (in64_of fun z hz => by
        obtain ⟨j, _, rfl⟩ := (mem_of _ z).1 hz
        exact tri_lt _ j) hn2 (by omega)).mono ?_
      rw [Hnd.out]
      rintro e w5 ⟨rfl, h1⟩
      have B5 := hide (bgo B4.out h1)
      clear h1
      go_wp2
      go_ret
      exact ⟨rfl, B5.out⟩

end Go.Proofs.Ytdneoeiggebijaa
