/- Layer 6: the law on case and joined strings. -/
import Derived.Test.YtdegppifgcbaeaaT8
namespace Go.Proofs.Ytdegppifgcbaeaa
open Go.RowKit
open Go.Lib (byteCells)

theorem conv1 (z : Int) (u : UInt8) (hz : (u.toNat : Int) = z) (w : World) :
    (convert 40 9 (.slice (some ⟨w.heap.size, 0, none⟩) 1 1)).run Try.prog (w.alloc (.cells #[.int .u8 z] 5)) = .ok (.string ⟨#[u]⟩) (w.alloc (.cells #[.int .u8 z] 5)) := by
  have ho := own_lit w #[.int .u8 z] 5 (by unfold maxLen; simp)
  have e : [Value.int .u8 z] = byteCells [u] := by
    simp [byteCells]
    omega
  have hr := Reads.of_own (w := w.alloc (.cells #[.int .u8 z] 5)) ho
  rw [show (#[Value.int .u8 z] : Array Value).toList = byteCells [u] from e] at hr
  exact conv_run hr 40 9 5 Try.underlying40 Try.underlying5 Try.underlying9 (fun e => by cases e)

/-- The upper-case form, so far. -/
def upA (d : List UInt8) (k : Nat) : ByteArray := ⟨((d.take k).map upr).toArray⟩
theorem upA_zero (d : List UInt8) : upA d 0 = ⟨#[]⟩ := by simp [upA]
theorem upA_succ (s : ByteArray) (k : Nat) (h : k < s.size) (u : UInt8) (hu : upr s[k] = u) : upA s.data.toList k ++ (⟨#[u]⟩ : ByteArray) = upA s.data.toList (k + 1) := by
  subst hu
  apply ba_ext
  unfold upA
  have hk : k < s.data.toList.length := by rw [size_list]; exact h
  rw [List.take_succ_eq_append_getElem hk, List.map_append]
  simp
  rfl
theorem upA_all (d : List UInt8) (k : Nat) (h : d.length ≤ k) : upA d k = ⟨(d.map upr).toArray⟩ := by
  unfold upA
  rw [List.take_of_length_le h]
theorem upA_size (d : List UInt8) (k : Nat) : (upA d k).size ≤ k := by
  have : (upA d k).size = ((d.take k).map upr).length := by unfold upA; simp [ByteArray.size]
  rw [this, List.length_map, List.length_take]
  omega
theorem cat_list (a b : ByteArray) : (a ++ b).data.toList = a.data.toList ++ b.data.toList := by simp
theorem cat_size (a b : ByteArray) : (a ++ b).size = a.size + b.size := by simp
theorem upr_low (c : UInt8) (h : ¬ (97 ≤ c.toNat ∧ c.toNat ≤ 122)) : upr c = c := by unfold upr; rw [if_neg h]

set_option maxRecDepth 20000 in
set_option maxHeartbeats 3200000 in
theorem law8 (C : Cs) (a b : ByteArray) (w : World) (ha : a.size ≤ 9223372036854775807) (hb : b.size ≤ 9223372036854775807) :
    Calls Try.prog 8 #[.string a, .string b] w fun e w' => e = .returned (.bool true) ∧ Below w.heap.size w w' := by
  have CC := hide C
  clear C
  go_enter Try.func8, Try.ntmps8
  go_wp2_with fail
  refine (alive9 CC.out _).mono ?_
  rintro e w1 ⟨rfl, h1⟩
  have B1 := hide h1
  clear h1
  by_cases hla : 1000 < a.size
  · go_wp2
    go_ret
    exact ⟨rfl, B1.out⟩
  · by_cases hlb : 1000 < b.size
    · go_wp2
      go_ret
      exact ⟨rfl, B1.out⟩
    · go_wp2
      go_loopw [5, 6] (fun u x wr => ∃ k : Nat, k ≤ a.size ∧ x = .int .i64 k ∧ u = .string (upA a.data.toList k) ∧ Below w1.heap.size w1 wr) (fun _ x _ => a.size - (intOf x).toNat)
      case atStart => exact ⟨0, Nat.zero_le _, rfl, by rw [upA_zero], Below.refl _ _⟩
      case round =>
        obtain ⟨k, hk, rfl, rfl, hbel⟩ := hrel
        have Hb := hide hbel
        clear hbel
        by_cases hlt : k < a.size
        · have hbb : a[k].toNat < 256 := UInt8.toNat_lt _
          have hUs := upA_size a.data.toList k
          obtain ⟨U, hU⟩ : ∃ U, upA a.data.toList k = U := ⟨_, rfl⟩
          rw [hU] at hUs
          by_cases h97 : 97 ≤ a[k].toNat
          · by_cases h122 : a[k].toNat ≤ 122
            · have kc := conv1 ((a[k].toNat : Int) - 32) (upr a[k]) (upr_up _ ⟨h97, h122⟩) wr
              have hst := upA_succ a k hlt _ rfl
              rw [hU] at hst ⊢
              have Hst := hide hst
              clear hU hst
              go_wp2
              go_roundw
              case rel => exact ⟨k + 1, by omega, by go_num, by rw [← Hst.out], bnew Hb.out _⟩
              case measure => simp [intOf]; omega
            · have kc := conv1 (a[k].toNat : Int) (upr a[k]) (by rw [upr_low _ (by omega)]) wr
              have hst := upA_succ a k hlt _ rfl
              rw [hU] at hst ⊢
              have Hst := hide hst
              clear hU hst
              go_wp2
              go_roundw
              case rel => exact ⟨k + 1, by omega, by go_num, by rw [← Hst.out], bnew Hb.out _⟩
              case measure => simp [intOf]; omega
          · have kc := conv1 (a[k].toNat : Int) (upr a[k]) (by rw [upr_low _ (by omega)]) wr
            have hst := upA_succ a k hlt _ rfl
            rw [hU] at hst ⊢
            have Hst := hide hst
            clear hU hst
            go_wp2
            go_roundw
            case rel => exact ⟨k + 1, by omega, by go_num, by rw [← Hst.out], bnew Hb.out _⟩
            case measure => simp [intOf]; omega
        · obtain ⟨U, hU⟩ : ∃ U, upA a.data.toList k = U := ⟨_, rfl⟩
          have hUl : U.data.toList = a.data.toList.map upr := by
            rw [← hU, upA_all _ _ (by rw [size_list]; omega)]
          have hUs : U.size ≤ 1000 := by
            have : U.size = U.data.toList.length := by simp
            rw [this, hUl, List.length_map, size_list]
            omega
          obtain ⟨X, hX⟩ : ∃ X, ofS a.data.toList = X := ⟨_, rfl⟩
          obtain ⟨Y, hY⟩ : ∃ Y, ofS b.data.toList = Y := ⟨_, rfl⟩
          obtain ⟨Z, hZ⟩ : ∃ Z, ofS (a ++ b).data.toList = Z := ⟨_, rfl⟩
          obtain ⟨G, hG⟩ : ∃ G, gramsS a.data.toList = G := ⟨_, rfl⟩
          have hXU : ofS U.data.toList = X := by rw [hUl, of_map upr fld_upr, hX]
          have hGU : gramsS U.data.toList = G := by rw [hUl, grams_map upr fld_upr, hG]
          have hXZ : ∀ x ∈ X, x ∈ Z := by rw [← hX, ← hZ, cat_list]; exact fun x hx => of_left _ _ x hx
          have hYZ : ∀ x ∈ Y, x ∈ Z := by rw [← hY, ← hZ, cat_list]; exact fun x hx => of_right _ _ x hx
          obtain ⟨m, hm⟩ : ∃ m, (othersS Z X Y).length = m := ⟨_, rfl⟩
          have hm2 : m ≤ 2 := by rw [← hm, ← hX, ← hY, ← hZ, cat_list]; exact others_two _ _
          have hcs := cat_size a b
          have hcs2 : (a ++ b).size ≤ 2000 := by omega
          rw [hU]
          have KX := hide hX
          have KY := hide hY
          have KZ := hide hZ
          have KG := hide hG
          have KXU := hide hXU
          have KGU := hide hGU
          have KXZ := hide hXZ
          have KYZ := hide hYZ
          have Km := hide hm
          have Kcs := hide hcs2
          clear hU hUl hX hY hZ hG hXU hGU hXZ hYZ hm hcs hcs2
          go_wp2_with fail
          with_reducible refine (CC.out.of a _ (by omega)).mono ?_
          rw [KX.out]
          rintro e w2 ⟨A1, n1, c1, rfl, h2, h1⟩
          have B2 := hide (Hb.out.trans (h1.mono Hb.out.size))
          have X2 := hide h2
          clear h1 h2 Hb
          go_wp2_with fail
          with_reducible refine (CC.out.of b _ (by omega)).mono ?_
          rw [KY.out]
          rintro e w3 ⟨A2, n2, c2, rfl, h2, h1⟩
          have B3 := hide (B2.out.trans (h1.mono B2.out.size))
          have X3 := hide (X2.out.below h1)
          have Y3 := hide h2
          clear h1 h2 B2 X2
          go_wp2_with fail
          with_reducible refine (CC.out.of (a ++ b) _ (by have := Kcs.out; omega)).mono ?_
          rw [KZ.out]
          rintro e w4 ⟨A3, n3, c3, rfl, h2, h1⟩
          have B4 := hide (B3.out.trans (h1.mono B3.out.size))
          have X4 := hide (X3.out.below h1)
          have Y4 := hide (Y3.out.below h1)
          have Z4 := hide h2
          clear h1 h2 B3 X3 Y3
          go_wp2_with fail
          with_reducible refine (CC.out.of U _ (by omega)).mono ?_
          rw [KXU.out]
          rintro e w5 ⟨A4, n4, c4, rfl, h2, h1⟩
          have B5 := hide (B4.out.trans (h1.mono B4.out.size))
          have X5 := hide (X4.out.below h1)
          have Y5 := hide (Y4.out.below h1)
          have Z5 := hide (Z4.out.below h1)
          have U5 := hide h2
          clear h1 h2 B4 X4 Y4 Z4
          go_wp2_with fail
          with_reducible refine (rsame14 A4 A1 n4 c4 n1 c1 X _ U5.out X5.out).mono ?_
          rintro e w6 ⟨rfl, h1⟩
          have h1 := h1.below w5.heap.size
          have B6 := hide (B5.out.trans (h1.mono B5.out.size))
          have X6 := hide (X5.out.below h1)
          have Y6 := hide (Y5.out.below h1)
          have Z6 := hide (Z5.out.below h1)
          clear h1 B5 X5 Y5 Z5 U5
          go_wp2_with fail
          with_reducible refine (CC.out.grams U _ (by omega)).mono ?_
          rw [KGU.out]
          rintro e w7 ⟨A5, n5, c5, rfl, h2, h1⟩
          have B7 := hide (B6.out.trans (h1.mono B6.out.size))
          have X7 := hide (X6.out.below h1)
          have Y7 := hide (Y6.out.below h1)
          have Z7 := hide (Z6.out.below h1)
          have G7 := hide h2
          clear h1 h2 B6 X6 Y6 Z6
          go_wp2_with fail
          with_reducible refine (CC.out.grams a _ (by omega)).mono ?_
          rw [KG.out]
          rintro e w8 ⟨A6, n6, c6, rfl, h2, h1⟩
          have B8 := hide (B7.out.trans (h1.mono B7.out.size))
          have X8 := hide (X7.out.below h1)
          have Y8 := hide (Y7.out.below h1)
          have Z8 := hide (Z7.out.below h1)
          have G8 := hide (G7.out.below h1)
          have H8 := hide h2
          clear h1 h2 B7 X7 Y7 Z7 G7
          go_wp2_with fail
          with_reducible refine (rsameG17 A5 A6 n5 c5 n6 c6 G _ G8.out H8.out).mono ?_
          rintro e w9 ⟨rfl, h1⟩
          have h1 := h1.below w8.heap.size
          have B9 := hide (B8.out.trans (h1.mono B8.out.size))
          have X9 := hide (X8.out.below h1)
          have Y9 := hide (Y8.out.below h1)
          have Z9 := hide (Z8.out.below h1)
          clear h1 B8 X8 Y8 Z8 G8 H8
          go_wp2_with fail
          with_reducible refine (within23 A1 A3 n1 c1 n3 c3 X Z _ X9.out Z9.out KXZ.out).mono ?_
          rintro e w10 ⟨rfl, rfl⟩
          go_wp2_with fail
          with_reducible refine (within23 A2 A3 n2 c2 n3 c3 Y Z _ Y9.out Z9.out KYZ.out).mono ?_
          rintro e w10 ⟨rfl, rfl⟩
          go_wp2_with fail
          with_reducible refine (others24 A3 A1 A2 n3 c3 n1 c1 n2 c2 Z X Y _ Z9.out X9.out Y9.out).mono ?_
          rw [Km.out]
          rintro e w10 ⟨rfl, rfl⟩
          go_wp2
          go_ret
          exact ⟨ret_bool (decide_eq_true (by omega)), B1.out.trans (B9.out.mono B1.out.size)⟩

end Go.Proofs.Ytdegppifgcbaeaa
