/- Walks of sets: firstRange, rightSet, inSet. -/
import Derived.Test.YtlabdaomgogflaaDoorW3
import Derived.BigRegion
import Derived.WalkMore
namespace Go.Proofs.YtlabdaomgogflaaDoor
open Go.RowKit

set_option maxHeartbeats 800000 in
theorem fr77_one (s : ByteArray) (w : World) (hs : s.size ≤ 100000) (h1 : 0 < s.size) (h2 : s.size ≤ 2) : Calls Tryd.prog 77 #[.string s] w fun e w' => e = .returned (.tuple #[.agg #[.int .u8 (s[0].toNat : Int), .int .u8 (s[0].toNat : Int)], .string (s.extract 1 s.size)]) ∧ Below w.heap.size w w' := by
  have hbb : s[0].toNat < 256 := UInt8.toNat_lt _
  have h3 : (1 : Int) ≤ (s.size : Int) := by omega
  go_enter Tryd.func77, Tryd.ntmps77
  go_wp2
  go_region
  go_wp2
  exact bodyPost_ret (v := .tuple #[.agg #[.int .u8 (s[0].toNat : Int), .int .u8 (s[0].toNat : Int)], .string (s.extract 1 s.size)]) (by simp [results, Tryd.results77, go_sem]) rfl ⟨rfl, ((Below.refl _ _).alloc (Nat.le_refl _) _).drew⟩
set_option maxHeartbeats 800000 in
theorem fr77_dash (s : ByteArray) (w : World) (hs : s.size ≤ 100000) (h1 : 0 < s.size) (h2 : 2 < s.size) (hd : s[1] ≠ 45) : Calls Tryd.prog 77 #[.string s] w fun e w' => e = .returned (.tuple #[.agg #[.int .u8 (s[0].toNat : Int), .int .u8 (s[0].toNat : Int)], .string (s.extract 1 s.size)]) ∧ Below w.heap.size w w' := by
  have hbb : s[0].toNat < 256 := UInt8.toNat_lt _
  have hbb : s[1].toNat < 256 := UInt8.toNat_lt _
  have h3 : (1 : Int) ≤ (s.size : Int) := by omega
  have e1 : ((s[1].toNat : Int) == 45) = false := by
    rw [beq_eq_false_iff_ne]
    intro h
    exact hd (UInt8.toNat_inj.1 (by show _ = 45; omega))
  clear hd
  go_enter Tryd.func77, Tryd.ntmps77
  go_wp2
  go_region
  go_wp2
  exact bodyPost_ret (v := .tuple #[.agg #[.int .u8 (s[0].toNat : Int), .int .u8 (s[0].toNat : Int)], .string (s.extract 1 s.size)]) (by simp [results, Tryd.results77, go_sem]) rfl ⟨rfl, ((Below.refl _ _).alloc (Nat.le_refl _) _).drew⟩
set_option maxHeartbeats 800000 in
theorem fr77_two (s : ByteArray) (w : World) (hs : s.size ≤ 100000) (h1 : 0 < s.size) (h2 : 2 < s.size) (hd : s[1] = 45) : Calls Tryd.prog 77 #[.string s] w fun e w' => e = .returned (.tuple #[.agg #[.int .u8 (s[0].toNat : Int), .int .u8 (s[2].toNat : Int)], .string (s.extract 3 s.size)]) ∧ Below w.heap.size w w' := by
  have hbb : s[0].toNat < 256 := UInt8.toNat_lt _
  have hbb : s[2].toNat < 256 := UInt8.toNat_lt _
  have h3 : (3 : Int) ≤ (s.size : Int) := by omega
  have e1 : ((s[1].toNat : Int) == 45) = true := by rw [hd]; rfl
  clear hd
  go_enter Tryd.func77, Tryd.ntmps77
  go_wp2
  go_region
  go_wp2
  exact bodyPost_ret (v := .tuple #[.agg #[.int .u8 (s[0].toNat : Int), .int .u8 (s[2].toNat : Int)], .string (s.extract 3 s.size)]) (by simp [results, Tryd.results77, go_sem]) rfl ⟨rfl, ((Below.refl _ _).alloc (Nat.le_refl _) _).drew⟩

theorem list_at (s : ByteArray) (k : Nat) (h : k < s.size) : s.data.toList[k]? = some s[k] := by
  rw [List.getElem?_eq_getElem (by rw [size_list]; exact h)]; rfl
theorem list1 (s : ByteArray) (h : 0 < s.size) : s.data.toList = s[0] :: s.data.toList.drop 1 := by
  have := drop_at s 0 h
  simpa using this
theorem firstR_one (s : ByteArray) (h : 0 < s.size) (h2 : s.size ≤ 2) : firstR s.data.toList = ((s[0], s[0]), (s.extract 1 s.size).data.toList) := by
  rw [toList_extract_end]
  have e := list1 s h
  have hl := size_list s
  generalize s.data.toList = l at e hl
  match l, e, hl with
  | [], _, hl => simp at hl; omega
  | [a], e, _ => simp at e; rw [← e]; rfl
  | [a, b], e, _ => simp at e; rw [← e]; rfl
  | a :: b :: c :: r, _, hl => simp at hl; omega
theorem firstR_dash (s : ByteArray) (h : 2 < s.size) (hd : s[1] ≠ 45) : firstR s.data.toList = ((s[0], s[0]), (s.extract 1 s.size).data.toList) := by
  rw [toList_extract_end]
  have e0 := list_at s 0 (by omega)
  have e1 := list_at s 1 (by omega)
  have hl := size_list s
  generalize s.data.toList = l at e0 e1 hl
  match l, e0, e1, hl with
  | [], _, _, hl => simp at hl; omega
  | [a], _, _, hl => simp at hl; omega
  | [a, b], _, _, hl => simp at hl; omega
  | a :: b :: c :: r, e0, e1, _ =>
    simp at e0 e1
    rw [← e0]
    show (if b = 45 then ((a, c), r) else ((a, a), b :: c :: r)) = _
    rw [if_neg (by rw [e1]; exact hd)]
    rfl
theorem firstR_two (s : ByteArray) (h : 2 < s.size) (hd : s[1] = 45) : firstR s.data.toList = ((s[0], s[2]), (s.extract 3 s.size).data.toList) := by
  rw [toList_extract_end]
  have e0 := list_at s 0 (by omega)
  have e1 := list_at s 1 (by omega)
  have e2 := list_at s 2 (by omega)
  have hl := size_list s
  generalize s.data.toList = l at e0 e1 e2 hl
  match l, e0, e1, e2, hl with
  | [], _, _, _, hl => simp at hl; omega
  | [a], _, _, _, hl => simp at hl; omega
  | [a, b], _, _, _, hl => simp at hl; omega
  | a :: b :: c :: r, e0, e1, e2, _ =>
    simp at e0 e1 e2
    rw [← e0, ← e2]
    show (if b = 45 then ((a, c), r) else ((a, a), b :: c :: r)) = _
    rw [if_pos (by rw [e1]; exact hd)]
    rfl

/-- The range with which a set begins, and a string of what is behind it. -/
theorem fr_ex (s : ByteArray) (h : 0 < s.size) : ∃ (a b : UInt8) (r : ByteArray), firstR s.data.toList = ((a, b), r.data.toList) ∧ r.size < s.size := by
  by_cases h2 : 2 < s.size
  · by_cases hd : s[1] = 45
    · exact ⟨_, _, _, firstR_two s h2 hd, by simp; omega⟩
    · exact ⟨_, _, _, firstR_dash s h2 hd, by simp; omega⟩
  · exact ⟨_, _, _, firstR_one s h (by omega), by simp; omega⟩
theorem fr77 (s : ByteArray) (a b : UInt8) (r : ByteArray) (h : firstR s.data.toList = ((a, b), r.data.toList)) (w : World) (hs : s.size ≤ 100000) (h1 : 0 < s.size) :
    Calls Tryd.prog 77 #[.string s] w fun e w' => e = .returned (.tuple #[.agg #[.int .u8 (a.toNat : Int), .int .u8 (b.toNat : Int)], .string r]) ∧ Below w.heap.size w w' := by
  by_cases h2 : 2 < s.size
  · by_cases hd : s[1] = 45
    · rw [firstR_two s h2 hd] at h
      simp only [Prod.mk.injEq] at h
      obtain ⟨⟨rfl, rfl⟩, h⟩ := h
      obtain rfl := ba_ext h
      exact fr77_two s w hs h1 h2 hd
    · rw [firstR_dash s h2 hd] at h
      simp only [Prod.mk.injEq] at h
      obtain ⟨⟨rfl, rfl⟩, h⟩ := h
      obtain rfl := ba_ext h
      exact fr77_dash s w hs h1 h2 hd
  · rw [firstR_one s h1 (by omega)] at h
    simp only [Prod.mk.injEq] at h
    obtain ⟨⟨rfl, rfl⟩, h⟩ := h
    obtain rfl := ba_ext h
    exact fr77_one s w hs h1 (by omega)

def strN (v : Value) : Nat := match v with | .string s => s.size | _ => 0
theorem ne_nil (s : ByteArray) (h : 0 < s.size) : s.data.toList ≠ [] := by
  intro e
  have := size_list s
  rw [e] at this
  simp at this
  omega
theorem is_nil (s : ByteArray) (h : s.size = 0) : s.data.toList = [] := List.length_eq_zero_iff.1 (by rw [size_list]; exact h)
theorem is_empty (s : ByteArray) (h : s.size = 0) : s.toList.isEmpty = true := by rw [Lib.toList_data, is_nil s h]; rfl
theorem size_mk (l : List UInt8) : (⟨l.toArray⟩ : ByteArray).size = l.length := by
  show l.toArray.size = l.length
  simp
theorem trimPrefix_le (l p : List UInt8) : (Lib.trimPrefix l p).length ≤ l.length := by
  unfold Lib.trimPrefix; split <;> simp

def RInv (w : World) (s r : ByteArray) (wr : World) : Prop := (ranges s.data.toList).all rOk = (ranges r.data.toList).all rOk ∧ Below w.heap.size w wr
set_option maxHeartbeats 1600000 in
theorem rs63 (l s : ByteArray) (hl : s.data.toList = Lib.trimPrefix l.data.toList [33]) (w : World) (hs : l.size ≤ 100000) : Calls Tryd.prog 63 #[.string l] w fun e w' => e = .returned (.bool (setOk l.data.toList)) ∧ Below w.heap.size w w' := by
  have hss : s.size ≤ 100000 := by
    have := trimPrefix_le l.data.toList [33]
    rw [← hl, size_list, size_list] at this
    omega
  have hc : Calls Tryd.prog 76 #[.string l, .string ⟨#[33]⟩] w fun e w' => e = .returned (.string s) ∧ w = w' := by
    refine (Tryd.strings_TrimPrefix l ⟨#[33]⟩ w).mono ?_
    rintro e w' ⟨rfl, rfl⟩
    refine ⟨ret_str ?_, rfl⟩
    apply ba_ext
    rw [hl]
  have hset : setOk l.data.toList = (!s.data.toList.isEmpty && (ranges s.data.toList).all rOk) := by rw [hl]; rfl
  have Hset := hide hset
  clear hset hl
  by_cases h0 : s.size = 0
  · have e0 := is_empty s h0
    go_enter Tryd.func63, Tryd.ntmps63
    go_wp2_with (go_at_call 76; refine hc.mono ?_; rintro e w' ⟨rfl, rfl⟩)
    go_ret
    exact ⟨ret_bool (by rw [Hset.out, ← Lib.toList_data, e0]; rfl), Below.refl _ _⟩
  · have e0 := not_empty s (by omega)
    have hv : setOk l.data.toList = (ranges s.data.toList).all rOk := by rw [Hset.out, ← Lib.toList_data, e0]; rfl
    have Hv := hide hv
    clear hv
    go_enter Tryd.func63, Tryd.ntmps63
    go_wp2_with (go_at_call 76; refine hc.mono ?_; rintro e w' ⟨rfl, rfl⟩)
    clear e0
    go_loopw [3] (fun v wr => ∃ r : ByteArray, r.size ≤ 100000 ∧ v = .string r ∧ RInv w s r wr) (fun v _ => strN v)
    case atStart => exact ⟨s, hss, rfl, rfl, Below.refl _ _⟩
    case round =>
      obtain ⟨r, hr, rfl, hinv⟩ := hrel
      by_cases hr0 : r.size = 0
      · have e1 := is_empty r hr0
        have hres : true = setOk l.data.toList := by rw [Hv.out, hinv.1, is_nil r hr0]; rfl
        have Hres := hide hres
        clear hres
        go_wp2
        go_ret
        exact ⟨ret_bool Hres.out, hinv.2⟩
      · have e1 := not_empty r (by omega)
        obtain ⟨a, b, t, hf, ht⟩ := fr_ex r (by omega)
        have hcons := ranges_cons r.data.toList (ne_nil r (by omega))
        rw [hf] at hcons
        have ha : a.toNat < 256 := UInt8.toNat_lt _
        have hb : b.toNat < 256 := UInt8.toNat_lt _
        have hall := hinv.1
        rw [hcons, List.all_cons] at hall
        have hbel := hinv.2
        have Hf := hide hf
        have Hall := hide hall
        have Hbel := hide hbel
        clear hf hall hcons hinv hbel
        go_wp2_with fail
        refine (fr77 r a b t Hf.out _ hr (by omega)).mono ?_
        rintro e w1 ⟨rfl, hb1⟩
        obtain ⟨q0, q1, f0, f1, hsz⟩ := two_new _ _ _ _ _ hb1
        have hbw : Below w.heap.size w w1 := Hbel.out.trans (((Below.refl _ _).alloc (Nat.le_refl _) _).trans (hb1.mono (by simp))  |>.mono (by exact Hbel.out.size))
        have hw1 : ∀ u v, Below w.heap.size w ((w1.setCell ⟨wr.heap.size, 0, none⟩ u).setCell ⟨wr.heap.size, 1, none⟩ v) := fun u v => (hbw.setCell (by exact Hbel.out.size) _).setCell (by exact Hbel.out.size) _
        have Hw1 := hide hw1
        clear hw1 hbw hb1
        by_cases hab : b.toNat < a.toNat
        · have hres : false = setOk l.data.toList := by
            rw [Hv.out, Hall.out]
            have : rOk (a, b) = false := decide_eq_false (by simpa using hab)
            rw [this]; rfl
          have Hres := hide hres
          clear hres
          go_wp2
          go_ret
          exact ⟨ret_bool Hres.out, Hw1.out _ _⟩
        · have hnext : (ranges s.data.toList).all rOk = (ranges t.data.toList).all rOk := by
            rw [Hall.out]
            have : rOk (a, b) = true := decide_eq_true (by simpa using hab)
            rw [this]; rfl
          have Hnext := hide hnext
          clear hnext
          go_wp2
          go_roundw
          case rel => exact ⟨t, by omega, rfl, Hnext.out, Hw1.out _ _⟩
          case measure => simp [strN]; omega

theorem inset_ne (x y : Bool) : (x != y) = (x != y) := rfl
set_option maxHeartbeats 1600000 in
theorem in67 (l s : ByteArray) (hl : s.data.toList = Lib.trimPrefix l.data.toList [33]) (c : UInt8) (w : World) (hs : l.size ≤ 100000) : Calls Tryd.prog 67 #[.string l, .int .u8 (c.toNat : Int)] w fun e w' => e = .returned (.bool (inS l.data.toList c)) ∧ Below w.heap.size w w' := by
  have hss : s.size ≤ 100000 := by
    have := trimPrefix_le l.data.toList [33]
    rw [← hl, size_list, size_list] at this
    omega
  have hcc : c.toNat < 256 := UInt8.toNat_lt _
  obtain ⟨n, hn⟩ : ∃ n, Lib.hasPrefix l.data.toList [33] = n := ⟨_, rfl⟩
  have hc : Calls Tryd.prog 34 #[.string l, .string ⟨#[33]⟩] w fun e w' => e = .returned (.tuple #[.string s, .bool n]) ∧ w = w' := by
    refine (Tryd.strings_CutPrefix l ⟨#[33]⟩ w).mono ?_
    rintro e w' ⟨rfl, rfl⟩
    refine ⟨?_, rfl⟩
    have e1 : s = ⟨(Lib.trimPrefix l.data.toList [33]).toArray⟩ := ba_ext hl
    rw [e1, ← hn]
  have hset : inS l.data.toList c = ((ranges s.data.toList).any (inR c) != n) := by rw [hl, ← hn]; rfl
  have Hset := hide hset
  clear hset hl hn
  go_enter Tryd.func67, Tryd.ntmps67
  go_wp2
  go_step3
  go_wp2_with (go_at_call 34; refine hc.mono ?_; rintro e w' ⟨rfl, rfl⟩)
  go_step3
  go_wp2
  go_loopw [5, 7] (fun v u wr => ∃ r : ByteArray, r.size ≤ 100000 ∧ v = .string r ∧ u = .bool false ∧ ((ranges s.data.toList).any (inR c) = (ranges r.data.toList).any (inR c) ∧ Below w.heap.size w wr)) (fun v _ _ => strN v)
  case atStart => exact ⟨s, hss, rfl, rfl, rfl, Below.refl _ _⟩
  case round =>
    obtain ⟨r, hr, rfl, rfl, hinv⟩ := hrel
    by_cases hr0 : r.size = 0
    · have e1 := is_empty r hr0
      have hres : (false != n) = inS l.data.toList c := by rw [Hset.out, hinv.1, is_nil r hr0]; rfl
      have Hres := hide hres
      clear hres
      go_wp2
      rw [Exit.noGoto_ret]
      go_ret
      exact ⟨ret_bool (by rw [← Hres.out]; simp), hinv.2⟩
    · have e1 := not_empty r (by omega)
      obtain ⟨a, b, t, hf, ht⟩ := fr_ex r (by omega)
      have hcons := ranges_cons r.data.toList (ne_nil r (by omega))
      rw [hf] at hcons
      have ha : a.toNat < 256 := UInt8.toNat_lt _
      have hb : b.toNat < 256 := UInt8.toNat_lt _
      have hall := hinv.1
      rw [hcons, List.any_cons] at hall
      have hbel := hinv.2
      have Hf := hide hf
      have Hall := hide hall
      have Hbel := hide hbel
      clear hf hall hcons hinv hbel
      go_wp2_with fail
      refine (fr77 r a b t Hf.out _ hr (by omega)).mono ?_
      rintro e w1 ⟨rfl, hb1⟩
      have hbw : Below w.heap.size w w1 := Hbel.out.trans (hb1.mono Hbel.out.size)
      have hw1 : ∀ o, Below w.heap.size w (w1.alloc o) := fun o => bnew hbw o
      have Hw1 := hide hw1
      clear hw1 hbw hb1
      by_cases hca : c.toNat < a.toNat
      · have hnext : (ranges s.data.toList).any (inR c) = (ranges t.data.toList).any (inR c) := by
          rw [Hall.out]
          have : inR c (a, b) = false := by unfold inR; rw [decide_eq_false (by simpa using hca)]; rfl
          rw [this]; rfl
        have Hnext := hide hnext
        clear hnext
        go_wp2
        go_roundw
        case rel => exact ⟨t, by omega, rfl, rfl, Hnext.out, Hw1.out _⟩
        case measure => simp [strN]; omega
      · by_cases hcb : b.toNat < c.toNat
        · have hnext : (ranges s.data.toList).any (inR c) = (ranges t.data.toList).any (inR c) := by
            rw [Hall.out]
            have : inR c (a, b) = false := by unfold inR; rw [decide_eq_false (p := c.toNat ≤ (a, b).2.toNat) (by simpa using hcb), Bool.and_false]
            rw [this]; rfl
          have Hnext := hide hnext
          clear hnext
          go_wp2
          go_roundw
          case rel => exact ⟨t, by omega, rfl, rfl, Hnext.out, Hw1.out _⟩
          case measure => simp [strN]; omega
        · have hres : (true != n) = inS l.data.toList c := by
            rw [Hset.out, Hall.out]
            have : inR c (a, b) = true := by unfold inR; rw [decide_eq_true (p := c.toNat ≤ (a, b).2.toNat) (by simpa using hcb), decide_eq_true (by simpa using hca)]; rfl
            rw [this]; rfl
          have Hres := hide hres
          clear hres
          go_wp2
          rw [Exit.noGoto_ret]
          go_ret
          exact ⟨ret_bool (by rw [← Hres.out]; simp), Hw1.out _⟩

end Go.Proofs.YtlabdaomgogflaaDoor
