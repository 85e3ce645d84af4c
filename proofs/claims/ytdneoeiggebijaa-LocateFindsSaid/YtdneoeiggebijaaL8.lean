/- Layer 7: the law on Candidates of the grams of a string, over the contracts. -/
import Derived.Test.YtdneoeiggebijaaL7
import Derived.Test.YtdneoeiggebijaaU5
namespace Go.Proofs.Ytdneoeiggebijaa
open Go.RowKit

theorem findN_split (f : Bool) (d e : List UInt8) (i : Nat) : ∀ j, ∃ r, findN f d e (i + j) = findN f d e i ++ r
  | 0 => ⟨[], by simp⟩
  | j + 1 => by
    obtain ⟨r, hr⟩ := findN_split f d e i j
    rw [show i + (j + 1) = (i + j) + 1 by omega, findN_succ, hr]
    exact ⟨_, List.append_assoc _ _ _⟩
theorem find_get (f : Bool) (d e : List UInt8) (i : Nat) (h : occB f d e i = true) : (findS f d e)[(findN f d e i).length]? = some (i : Int) := by
  have hi := ((occ_iff f d e i).1 h).1
  obtain ⟨r, hr⟩ := findN_split f d e (i + 1) (d.length - i)
  rw [show i + 1 + (d.length - i) = d.length + 1 by omega, findN_yes f d e i h] at hr
  unfold findS
  rw [hr, List.append_assoc, List.getElem?_append_right (by omega)]
  simp
/-- The first j bytes agree. -/
def sameN (d e : List UInt8) (i j : Nat) : Bool := (List.range j).all fun x => decide (fb true d (i + x) = fb true e x)
theorem sameN_succ (d e : List UInt8) (i j : Nat) : sameN d e i (j + 1) = (sameN d e i j && decide (fb true d (i + j) = fb true e j)) := by
  unfold sameN
  rw [List.range_succ, List.all_append]
  simp
theorem sameN_all (d e : List UInt8) (i : Nat) (h : i + e.length ≤ d.length) : sameN d e i e.length = occB true d e i := by
  unfold sameN occB
  rw [decide_eq_true h]
  rfl
theorem offs_in (d : List UInt8) (c : Int) (h : d.length ≤ 1000) : In64 (offs d c) := fun z hz => by
  obtain ⟨i, hi, _, rfl⟩ := (mem_offsN d c _ z).1 hz
  omega
theorem grams_len7 (d : List UInt8) (h : d.length ≤ 1000) : ∀ g ∈ gramsS d, g.2.length ≤ 1000 ∧ In64 g.2 := by
  intro g hg
  unfold gramsS at hg
  obtain ⟨c, _, rfl⟩ := List.mem_map.1 hg
  have := offsN_len d c (d.length - 2)
  refine ⟨?_, offs_in d c h⟩
  show (offsN d c (d.length - 2)).length ≤ _
  omega

set_option maxRecDepth 100000 in
set_option maxHeartbeats 3200000 in
theorem law6 (C : Cs) (s t : ByteArray) (w : World) (hs : s.size ≤ 9223372036854775807) (ht : t.size ≤ 9223372036854775807) :
    Calls Try.prog 6 #[.string s, .string t] w fun e w' => e = .returned (.bool true) ∧ Below w.heap.size w w' := by
  have CC := hide C
  clear C
  go_enter Try.func6, Try.ntmps6
  go_wp2_with fail
  refine (alive10 CC.out _).mono ?_
  rintro e w1 ⟨rfl, h1⟩
  have B1 := hide h1
  clear h1
  by_cases h1 : 400 < s.size
  · go_wp2
    go_ret
    exact ⟨rfl, B1.out⟩
  by_cases h2 : 40 < t.size
  · go_wp2
    go_ret
    exact ⟨rfl, B1.out⟩
  obtain ⟨d, hd⟩ : ∃ d, s.data.toList = d := ⟨_, rfl⟩
  obtain ⟨e, he⟩ : ∃ e, t.data.toList = e := ⟨_, rfl⟩
  have ls := size_list s
  have lt := size_list t
  rw [hd] at ls
  rw [he] at lt
  have hgr := grams22 s
  rw [hd] at hgr
  have Hgr := hide hgr
  have hgl := grams_len7 d (by omega)
  have hon := of_len d
  have hgn : (gramsS d).length ≤ 1000 := by unfold gramsS; rw [List.length_map]; omega
  obtain ⟨G, hG⟩ : ∃ G, gramsS d = G := ⟨_, rfl⟩
  obtain ⟨L, hL⟩ : ∃ L, candS G e = L := ⟨_, rfl⟩
  have hca : 3 ≤ e.length → findS true d e = L := fun h => by rw [← hL, ← hG, cand_grams d e h]
  have hshort : e.length < 3 → L = [] := fun h => by rw [← hL]; unfold candS; rw [if_pos h]
  have Hcd := hide (show ∀ (A : Option Addr) (n c : Nat) (w : World), GrS w A n c G → Calls Try.prog 20 #[.slice A n c, .string t] w (GotIB w L (decide (3 ≤ t.size))) from fun A n c w h => by
    have hn := h.2.2.1
    rw [← hG] at hn
    have := CC.out.cand A n c G t w h (by omega) (fun g hg => (hgl g (by rw [hG]; exact hg)).1) (fun g hg => (hgl g (by rw [hG]; exact hg)).2) (by omega)
    rw [he, hL] at this
    exact this)
  rw [hG] at Hgr
  go_wp2_with fail
  with_reducible refine (Hgr.out _ (by omega)).mono ?_
  rintro e w2 ⟨A1, n1, c1, rfl, h2, h1⟩
  have B2 := hide (bgo B1.out h1)
  have G2 := hide h2
  clear h1 h2 B1 Hgr hgr
  by_cases h3 : t.size < 3
  · have Hl := hide (hshort (by omega))
    have Hf := hide (show decide (3 ≤ t.size) = false from decide_eq_false (by omega))
    have hg3 : decide ((t.size : Int) < 3) = true := decide_eq_true (by omega)
    clear hd he ls lt hgl hon hgn hG hL hca hshort
    go_wp2_with fail
    with_reducible refine (Hcd.out A1 n1 c1 _ G2.out).mono ?_
    rw [Hf.out]
    rintro e w3 ⟨A2, n2, c2, rfl, h2, h1⟩
    have B3 := hide (bgo B2.out h1)
    have hn2 := h2.nlen
    rw [Hl.out] at hn2
    have hn3 : ((n2 : Int) == 0) = true := by rw [← hn2]; rfl
    clear h1 h2 hn2
    go_wp2
    go_ret
    exact ⟨rfl, B3.out⟩
  · have Hl := hide (hca (by omega))
    have Hf := hide (show decide (3 ≤ t.size) = true from decide_eq_true (by omega))
    have hg3 : decide ((t.size : Int) < 3) = false := decide_eq_false (by omega)
    have Hls := hide ls
    have Hlt := hide lt
    have Hd := hide hd
    have He := hide he
    have Hsz1 := hide (show ∀ i, i + t.size ≤ s.size → sameN d e i t.size = occB true d e i from fun i hi => by rw [← lt]; exact sameN_all d e i (by omega))
    have Hall := hide (show ∀ i, (i = 0 ∨ i + t.size ≤ s.size + 1) → s.size < i + t.size → findN true d e i = L from fun i h1 h2 => by
      rw [← Hl.out]
      by_cases h3 : s.size < t.size
      · rw [find_short true d e (by omega), show i = 0 by omega]
        rfl
      · exact find_upto true d e i (by omega))
    have Hget := hide (show ∀ i, occB true d e i = true → L[(findN true d e i).length]? = some (i : Int) from fun i h => by rw [← Hl.out]; exact find_get true d e i h)
    clear hd he ls lt hgl hon hgn hG hL hca hshort
    go_wp2_with fail
    with_reducible refine (Hcd.out A1 n1 c1 _ G2.out).mono ?_
    rw [Hf.out]
    rintro e' w3 ⟨A2, n2, c2, rfl, h2, h1⟩
    have B3 := hide (bgo B2.out h1)
    have S3 := hide h2
    have Hlen := hide h2.nlen
    have hnc := h2.1
    have hcc := h2.2.1
    clear h1 h2
    go_wp2
    go_loopw [7, 8, 9, 10] (fun x y _ _ wr => ∃ i k : Nat, (i = 0 ∨ i + t.size ≤ s.size + 1) ∧ (findN true d e i).length = k ∧ k ≤ i ∧ x = .int .i64 (k : Int) ∧ y = .int .i64 (i : Int) ∧ Drawn w3 wr) (fun _ y _ _ _ => s.size + 1 - (intOf y).toNat)
    case atStart => exact ⟨0, 0, Or.inl rfl, rfl, Nat.le_refl _, rfl, rfl, Drawn.refl _⟩
    case round =>
      obtain ⟨i, k, hi, hk, hki, rfl, rfl, hdr⟩ := hrel
      obtain ⟨w4, hw4⟩ : ∃ w4, w4 = wr := ⟨wr, rfl⟩
      subst hw4
      have Hk := hide hk
      have Dr := hide hdr
      have hi2 : i ≤ 401 := by omega
      by_cases hlt : i + t.size ≤ s.size
      · have hle : (i : Int) ≤ (s.size : Int) - (t.size : Int) := by omega
        clear hk hdr hi
        go_wp2
        go_loopw [9, 10] (fun b y wr => ∃ j : Nat, j ≤ t.size ∧ b = .bool (sameN d e i j) ∧ y = .int .i64 (j : Int) ∧ Drawn w3 wr) (fun _ y _ => t.size - (intOf y).toNat)
        case atStart => exact ⟨0, Nat.zero_le _, rfl, rfl, Dr.out⟩
        case round =>
          obtain ⟨j, hj, rfl, rfl, hdr⟩ := hrel
          obtain ⟨w5, hw5⟩ : ∃ w5, w5 = wr := ⟨wr, rfl⟩
          subst hw5
          have Dr5 := hide hdr
          by_cases hlt2 : j < t.size
          · have Hsucc := hide (sameN_succ d e i j)
            cases hsj : sameN d e i j with
            | false =>
              have Hn := hide (show sameN d e i (j + 1) = false by rw [Hsucc.out, hsj]; rfl)
              clear hsj hdr
              go_wp2
              go_quiet (fail)
              go_wp2
              go_roundw
              case rel => exact ⟨j + 1, by omega, by rw [Hn.out], by go_num, Dr5.out.more _⟩
              case measure => simp [intOf]; omega
            | true =>
              have q1 : i + j < s.size := by omega
              have q2 : (0 : Int) ≤ (i : Int) + (j : Int) := by omega
              have q3 : (i : Int) + (j : Int) < (s.size : Int) := by omega
              have q4 : IntKind.i64.wrap ((i : Int) + (j : Int)) = (i : Int) + (j : Int) := IntWalk.i64_in _ (by omega)
              have e1 := fb_up s (i + j) q1
              have e2 := fb_up t j hlt2
              rw [Hd.out] at e1
              rw [He.out] at e2
              obtain ⟨q, hq⟩ : ∃ q, (((fld s[i + j]).toNat : Int) == ((fld t[j]).toNat : Int)) = q := ⟨_, rfl⟩
              have Hn := hide (show sameN d e i (j + 1) = q by
                rw [Hsucc.out, hsj, e1, e2, ← hq, Bool.true_and]
                by_cases hxy : (fld s[i + j]).toNat = (fld t[j]).toNat
                · rw [hxy]; simp
                · rw [decide_eq_false hxy]
                  symm
                  rw [beq_eq_false_iff_ne]
                  omega)
              clear hsj hdr e1 e2
              go_wp2
              go_quiet ((go_at_call 23; exact quiet_left (fold23 _ _ rfl _)))
              go_wp2
              go_roundw
              case rel => exact ⟨j + 1, by omega, by rw [Hn.out], by go_num, Dr5.out.more _⟩
              case measure => simp [intOf]; omega
          · have hall := Hsz1.out i hlt
            rw [show t.size = j by omega] at hall
            cases hoc : occB true d e i with
            | true =>
              rw [hall, hoc]
              have hg := Hget.out i hoc
              rw [Hk.out] at hg
              have hlen := Hlen.out
              have hkn : k < n2 := by have := (List.getElem?_eq_some_iff.1 hg).1; omega
              obtain ⟨ad, z, rfl, hz, hcell⟩ := num_cell (S3.out.below (hdr.below w3.heap.size)).reads hkn
              rw [hg] at hz
              cases hz
              have Hn := hide (show (findN true d e (i + 1)).length = k + 1 by rw [findN_yes true d e i hoc, List.length_append, Hk.out]; rfl)
              clear hall hoc hg hlen hdr
              go_wp2
              go_roundw
              case rel => exact ⟨i + 1, k + 1, Or.inr (by omega), Hn.out, by omega, by go_num, by go_num, Dr5.out⟩
              case measure => simp [intOf]; omega
            | false =>
              rw [hall, hoc]
              have Hn := hide (show (findN true d e (i + 1)).length = k by rw [findN_no true d e i hoc, Hk.out])
              clear hall hoc hdr
              go_wp2
              go_roundw
              case rel => exact ⟨i + 1, k, Or.inr (by omega), Hn.out, by omega, rfl, by go_num, Dr5.out⟩
              case measure => simp [intOf]; omega
      · have hle : ¬ (i : Int) ≤ (s.size : Int) - (t.size : Int) := by omega
        have hL := Hall.out i hi (by omega)
        have hkn : k = n2 := by rw [← Hk.out, hL, Hlen.out]
        subst hkn
        have Be := hide (B3.out.trans (hdr.below _))
        clear hk hdr hi hL
        go_wp2
        go_ret
        exact ⟨ret_bool (by simp), Be.out⟩

end Go.Proofs.Ytdneoeiggebijaa
