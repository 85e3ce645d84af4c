/- Walks of the functions on paths: last, Base, Dir, Ext, Under, slash. -/
import Derived.Test.YtlabdaomgogflaaDoorW1
namespace Go.Proofs.YtlabdaomgogflaaDoor
open Go.RowKit

/-- The offset behind the last byte c. -/
def cut (s : ByteArray) (c : Int) : Nat := (Lib.lastIndexByte s c + 1).toNat
theorem cut_eq (s : ByteArray) (c : Int) : Lib.lastIndexByte s c = (cut s c : Int) - 1 ∧ cut s c ≤ s.size := by
  unfold cut
  rcases Lib.lastIndexByte_spec s c with ⟨h, _⟩ | ⟨i, hi, h, _⟩ <;> rw [h] <;> omega
theorem at_bang (s : ByteArray) (k : Nat) (h : k < s.size) : s.data[k]! = s[k] := by
  rw [getElem!_pos s.data k (by exact h)]; rfl

set_option maxHeartbeats 400000 in
theorem last33 (s : ByteArray) (c : Int) (w : World) (hs : s.size ≤ 100000) (_h0 : 0 ≤ c) (_h1 : c ≤ 255) : Calls Tryd.prog 33 #[.string s, .int .u8 c] w fun e w' => e = .returned (.int .i64 (Lib.lastIndexByte s c)) ∧ w = w' := by
  go_enter Tryd.func33, Tryd.ntmps33
  go_wp2
  go_loop [5, 6] (fun v i => ∃ k : Nat, k ≤ s.size ∧ i = .int .i64 k ∧ v = .int .i64 (Lib.lastIdx s c k)) (fun _ i => s.size - (intOf i).toNat)
  case atStart => exact ⟨0, Nat.zero_le _, rfl, rfl⟩
  case round =>
    obtain ⟨k, hk, rfl, rfl⟩ := hrel
    by_cases hlt : k < s.size
    · have hbb : s[k].toNat < 256 := UInt8.toNat_lt _
      have hbang := at_bang s k hlt
      by_cases hx : (s[k].toNat : Int) = c
      · have hn := Lib.lastIdx_hit s c k (by rw [hbang]; exact hx)
        have Hn := hide hn
        have hb : ((s[k].toNat : Int) == c) = true := by simp [hx]
        clear hn hx hbang
        go_wp2
        go_round
        case rel => exact ⟨k + 1, by omega, by go_num, by rw [Hn.out]⟩
        case measure => simp [intOf]; omega
      · have hn := Lib.lastIdx_miss s c k (by rw [hbang]; exact hx)
        have Hn := hide hn
        have hb : ((s[k].toNat : Int) == c) = false := by simp [hx]
        clear hn hx hbang
        go_wp2
        go_round
        case rel => exact ⟨k + 1, by omega, by go_num, by rw [Hn.out]⟩
        case measure => simp [intOf]; omega
    · obtain rfl : k = s.size := by omega
      go_wp2
      go_ret
      exact ⟨rfl, rfl⟩

theorem lib32 (s : ByteArray) (c : Int) (n : Nat) (hn : cut s c = n) (w : World) (hs : s.size ≤ 100000) : Calls Tryd.prog 32 #[.string s, .int .u8 c] w fun e w' => e = .returned (.int .i64 ((n : Int) - 1)) ∧ w = w' := by
  subst hn
  refine (Tryd.strings_LastIndexByte s c (by omega) w).mono ?_
  rintro e w' ⟨rfl, rfl⟩
  rw [(cut_eq s c).1]
  exact ⟨rfl, rfl⟩
theorem ref33 (s : ByteArray) (c : Int) (n : Nat) (hn : cut s c = n) (w : World) (hs : s.size ≤ 100000) (h0 : 0 ≤ c) (h1 : c ≤ 255) : Calls Tryd.prog 33 #[.string s, .int .u8 c] w fun e w' => e = .returned (.int .i64 ((n : Int) - 1)) ∧ w = w' := by
  subst hn
  refine (last33 s c w hs h0 h1).mono ?_
  rintro e w' ⟨rfl, rfl⟩
  rw [(cut_eq s c).1]
  exact ⟨rfl, rfl⟩

def baseB (s : ByteArray) : ByteArray := s.extract (cut s 47) s.size
def dirB (s : ByteArray) : ByteArray := if cut s 47 = 0 then ByteArray.empty else s.extract 0 (cut s 47 - 1)
def extB (s : ByteArray) : ByteArray := if cut (baseB s) 46 = 0 then ByteArray.empty else (baseB s).extract (cut (baseB s) 46) (baseB s).size
theorem ret_str {a b : ByteArray} (h : a = b) : Ending.returned (.string a) = .returned (.string b) := by rw [h]

set_option maxHeartbeats 400000 in
theorem base14 (s : ByteArray) (w : World) (hs : s.size ≤ 100000) : Calls Tryd.prog 14 #[.string s] w fun e w' => e = .returned (.string (baseB s)) ∧ w = w' := by
  obtain ⟨n, hn⟩ : ∃ n, cut s 47 = n := ⟨_, rfl⟩
  have hle := (cut_eq s 47).2
  rw [hn] at hle
  have Hn := hide hn
  clear hn
  go_enter Tryd.func14, Tryd.ntmps14
  go_wp2_with (go_at_call 32; refine (lib32 _ _ n Hn.out _ hs).mono ?_; rintro e w' ⟨rfl, rfl⟩)
  go_ret
  exact ⟨ret_str (by rw [baseB, Hn.out]), rfl⟩
set_option maxHeartbeats 400000 in
theorem base15 (s : ByteArray) (w : World) (hs : s.size ≤ 100000) : Calls Tryd.prog 15 #[.string s] w fun e w' => e = .returned (.string (baseB s)) ∧ w = w' := by
  obtain ⟨n, hn⟩ : ∃ n, cut s 47 = n := ⟨_, rfl⟩
  have hle := (cut_eq s 47).2
  rw [hn] at hle
  have Hn := hide hn
  clear hn
  go_enter Tryd.func15, Tryd.ntmps15
  go_wp2_with (go_at_call 33; refine (ref33 _ _ n Hn.out _ hs (by omega) (by omega)).mono ?_; rintro e w' ⟨rfl, rfl⟩)
  go_ret
  exact ⟨ret_str (by rw [baseB, Hn.out]), rfl⟩

set_option maxHeartbeats 400000 in
theorem dir16 (s : ByteArray) (w : World) (hs : s.size ≤ 100000) : Calls Tryd.prog 16 #[.string s] w fun e w' => e = .returned (.string (dirB s)) ∧ w = w' := by
  obtain ⟨n, hn⟩ : ∃ n, cut s 47 = n := ⟨_, rfl⟩
  have hle := (cut_eq s 47).2
  rw [hn] at hle
  have Hn := hide hn
  clear hn
  cases n with
  | zero =>
    go_enter Tryd.func16, Tryd.ntmps16
    go_wp2_with (go_at_call 32; refine (lib32 _ _ 0 Hn.out _ hs).mono ?_; rintro e w' ⟨rfl, rfl⟩)
    go_ret
    exact ⟨ret_str (by rw [dirB, Hn.out]; rfl), rfl⟩
  | succ n =>
    go_enter Tryd.func16, Tryd.ntmps16
    go_wp2_with (go_at_call 32; refine (lib32 _ _ (n + 1) Hn.out _ hs).mono ?_; rintro e w' ⟨rfl, rfl⟩)
    go_ret
    exact ⟨ret_str (by rw [dirB, Hn.out, if_neg (by omega)]; simp), rfl⟩
set_option maxHeartbeats 400000 in
theorem dir17 (s : ByteArray) (w : World) (hs : s.size ≤ 100000) : Calls Tryd.prog 17 #[.string s] w fun e w' => e = .returned (.string (dirB s)) ∧ w = w' := by
  obtain ⟨n, hn⟩ : ∃ n, cut s 47 = n := ⟨_, rfl⟩
  have hle := (cut_eq s 47).2
  rw [hn] at hle
  have Hn := hide hn
  clear hn
  cases n with
  | zero =>
    go_enter Tryd.func17, Tryd.ntmps17
    go_wp2_with (go_at_call 33; refine (ref33 _ _ 0 Hn.out _ hs (by omega) (by omega)).mono ?_; rintro e w' ⟨rfl, rfl⟩)
    go_ret
    exact ⟨ret_str (by rw [dirB, Hn.out]; rfl), rfl⟩
  | succ n =>
    go_enter Tryd.func17, Tryd.ntmps17
    go_wp2_with (go_at_call 33; refine (ref33 _ _ (n + 1) Hn.out _ hs (by omega) (by omega)).mono ?_; rintro e w' ⟨rfl, rfl⟩)
    go_ret
    exact ⟨ret_str (by rw [dirB, Hn.out, if_neg (by omega)]; simp), rfl⟩

theorem base_size (s : ByteArray) : (baseB s).size ≤ s.size := by
  unfold baseB
  simp
set_option maxHeartbeats 400000 in
theorem ext18 (s : ByteArray) (w : World) (hs : s.size ≤ 100000) : Calls Tryd.prog 18 #[.string s] w fun e w' => e = .returned (.string (extB s)) ∧ w = w' := by
  have hext : extB s = if cut (baseB s) 46 = 0 then ByteArray.empty else (baseB s).extract (cut (baseB s) 46) (baseB s).size := rfl
  have hbs := base_size s
  have hbase := base14 s w hs
  generalize baseB s = b at hext hbs hbase
  obtain ⟨n, hn⟩ : ∃ n, cut b 46 = n := ⟨_, rfl⟩
  have hle := (cut_eq b 46).2
  rw [hn] at hle hext
  have Hn := hide hn
  have Hext := hide hext
  clear hn hext
  cases n with
  | zero =>
    go_enter Tryd.func18, Tryd.ntmps18
    go_wp2_with (first | (go_at_call 14; refine hbase.mono ?_; rintro e w' ⟨rfl, rfl⟩) | (go_at_call 32; refine (lib32 _ _ 0 Hn.out _ (by omega)).mono ?_; rintro e w' ⟨rfl, rfl⟩))
    go_ret
    exact ⟨ret_str (by rw [Hext.out]; rfl), rfl⟩
  | succ n =>
    go_enter Tryd.func18, Tryd.ntmps18
    go_wp2_with (first | (go_at_call 14; refine hbase.mono ?_; rintro e w' ⟨rfl, rfl⟩) | (go_at_call 32; refine (lib32 _ _ (n + 1) Hn.out _ (by omega)).mono ?_; rintro e w' ⟨rfl, rfl⟩))
    go_ret
    exact ⟨ret_str (by rw [Hext.out, if_neg (by omega)]), rfl⟩
set_option maxHeartbeats 400000 in
theorem ext19 (s : ByteArray) (w : World) (hs : s.size ≤ 100000) : Calls Tryd.prog 19 #[.string s] w fun e w' => e = .returned (.string (extB s)) ∧ w = w' := by
  have hext : extB s = if cut (baseB s) 46 = 0 then ByteArray.empty else (baseB s).extract (cut (baseB s) 46) (baseB s).size := rfl
  have hbs := base_size s
  have hbase := base15 s w hs
  generalize baseB s = b at hext hbs hbase
  obtain ⟨n, hn⟩ : ∃ n, cut b 46 = n := ⟨_, rfl⟩
  have hle := (cut_eq b 46).2
  rw [hn] at hle hext
  have Hn := hide hn
  have Hext := hide hext
  clear hn hext
  cases n with
  | zero =>
    go_enter Tryd.func19, Tryd.ntmps19
    go_wp2_with (first | (go_at_call 15; refine hbase.mono ?_; rintro e w' ⟨rfl, rfl⟩) | (go_at_call 33; refine (ref33 _ _ 0 Hn.out _ (by omega) (by omega) (by omega)).mono ?_; rintro e w' ⟨rfl, rfl⟩))
    go_ret
    exact ⟨ret_str (by rw [Hext.out]; rfl), rfl⟩
  | succ n =>
    go_enter Tryd.func19, Tryd.ntmps19
    go_wp2_with (first | (go_at_call 15; refine hbase.mono ?_; rintro e w' ⟨rfl, rfl⟩) | (go_at_call 33; refine (ref33 _ _ (n + 1) Hn.out _ (by omega) (by omega) (by omega)).mono ?_; rintro e w' ⟨rfl, rfl⟩))
    go_ret
    exact ⟨ret_str (by rw [Hext.out, if_neg (by omega)]), rfl⟩

def underL (p d : List UInt8) : Bool := d.isEmpty || Lib.hasPrefix p (d ++ [47])
theorem under_cut (p d : List UInt8) (h : Lib.hasPrefix p d = true) (hd : d.isEmpty = false) : Lib.hasPrefix (Lib.trimPrefix p d) [47] = underL p d := by
  obtain ⟨r, rfl⟩ := List.isPrefixOf_iff_prefix.1 h
  unfold underL Lib.trimPrefix
  rw [h, hd, if_pos rfl, List.drop_left, Bool.false_or]
  unfold Lib.hasPrefix
  rw [Bool.eq_iff_iff, List.isPrefixOf_iff_prefix, List.isPrefixOf_iff_prefix, List.prefix_append_right_inj]
theorem under_no (p d : List UInt8) (h : Lib.hasPrefix p d = false) (hd : d.isEmpty = false) : false = underL p d := by
  unfold underL
  rw [hd, Bool.false_or]
  symm
  rw [Bool.eq_false_iff]
  intro hp
  rw [Bool.eq_false_iff] at h
  apply h
  rw [Lib.hasPrefix, List.isPrefixOf_iff_prefix] at hp ⊢
  exact (List.prefix_append _ _).trans hp

set_option maxHeartbeats 400000 in
theorem under20 (p d : ByteArray) (w : World) : Calls Tryd.prog 20 #[.string p, .string d] w fun e w' => e = .returned (.bool (underL p.data.toList d.data.toList)) ∧ w = w' := by
  by_cases e0 : d.toList.isEmpty = true
  · go_enter Tryd.func20, Tryd.ntmps20
    go_wp2
    go_ret
    exact ⟨ret_bool (by rw [underL, ← Lib.toList_data d, e0]; rfl), rfl⟩
  replace e0 : d.toList.isEmpty = false := by simpa using e0
  have e0' : d.data.toList.isEmpty = false := by rw [← Lib.toList_data]; exact e0
  have hc := Tryd.strings_CutPrefix p d w
  cases h : Lib.hasPrefix p.data.toList d.data.toList
  · have hu := under_no _ _ h e0'
    have Hu := hide hu
    rw [h] at hc
    clear hu h e0'
    go_enter Tryd.func20, Tryd.ntmps20
    go_wp2_with (go_at_call 34; refine hc.mono ?_; rintro e w' ⟨rfl, rfl⟩)
    go_ret
    exact ⟨ret_bool Hu.out, rfl⟩
  · have hu := under_cut _ _ h e0'
    have Hu := hide hu
    rw [h] at hc
    clear hu h e0'
    go_enter Tryd.func20, Tryd.ntmps20
    go_wp2_with (first | (go_at_call 34; refine hc.mono ?_; rintro e w' ⟨rfl, rfl⟩) | (go_at_call 35; refine (Tryd.strings_HasPrefix _ _ _).mono ?_; rintro e w' ⟨rfl, rfl⟩))
    go_ret
    exact ⟨ret_bool Hu.out, rfl⟩

theorem under_ref (p d : ByteArray) (hd : d.toList.isEmpty = false) (hlt : d.size < p.size) : (((p.extract 0 d.size).toList == d.toList) && ((p[d.size].toNat : Int) == 47)) = underL p.data.toList d.data.toList := by
  have e1 : (p.extract 0 d.size).toList = p.data.toList.take d.data.toList.length := by rw [Lib.toList_data, toList_extract0, size_list]
  have hd' : d.data.toList.isEmpty = false := by rw [← Lib.toList_data]; exact hd
  rw [e1, Lib.toList_data, Bool.eq_iff_iff, Bool.and_eq_true, beq_iff_eq, beq_iff_eq]
  unfold underL
  rw [hd', Bool.false_or, Lib.hasPrefix, List.isPrefixOf_iff_prefix, List.prefix_iff_eq_take, List.length_append, List.length_singleton, List.take_succ_eq_append_getElem (by rw [size_list, size_list]; exact hlt)]
  have e2 : p.data.toList[d.data.toList.length]'(by rw [size_list, size_list]; exact hlt) = p[d.size] := by
    simp only [size_list]; rfl
  rw [e2]
  constructor
  · rintro ⟨h1, h2⟩
    rw [h1]
    congr 2
    apply UInt8.toNat_inj.1
    show 47 = _
    omega
  · intro h
    have := List.append_inj' h rfl
    refine ⟨this.1.symm, ?_⟩
    have h2 := this.2
    simp at h2
    rw [← h2]; rfl
theorem under_short (p d : ByteArray) (hd : d.toList.isEmpty = false) (hlt : p.size ≤ d.size) : false = underL p.data.toList d.data.toList := by
  have hd' : d.data.toList.isEmpty = false := by rw [← Lib.toList_data]; exact hd
  unfold underL
  rw [hd', Bool.false_or]
  symm
  rw [Bool.eq_false_iff]
  intro hp
  rw [Lib.hasPrefix, List.isPrefixOf_iff_prefix] at hp
  have := hp.length_le
  rw [List.length_append, size_list, size_list] at this
  simp at this
  omega

set_option maxHeartbeats 400000 in
theorem under21 (p d : ByteArray) (w : World) (_hp : p.size ≤ 100000) (_hd : d.size ≤ 100000) : Calls Tryd.prog 21 #[.string p, .string d] w fun e w' => e = .returned (.bool (underL p.data.toList d.data.toList)) ∧ w = w' := by
  by_cases e0 : d.toList.isEmpty = true
  · go_enter Tryd.func21, Tryd.ntmps21
    go_wp2
    go_ret
    exact ⟨ret_bool (by rw [underL, ← Lib.toList_data d, e0]; rfl), rfl⟩
  replace e0 : d.toList.isEmpty = false := by simpa using e0
  by_cases hlt : d.size < p.size
  · have hu := under_ref p d e0 hlt
    have hbb : p[d.size].toNat < 256 := UInt8.toNat_lt _
    cases e1 : ((p.extract 0 d.size).toList == d.toList)
    · rw [e1] at hu
      have Hu := hide hu
      clear hu
      go_enter Tryd.func21, Tryd.ntmps21
      go_wp2
      go_ret
      exact ⟨ret_bool Hu.out, rfl⟩
    · rw [e1] at hu
      have Hu := hide hu
      clear hu
      go_enter Tryd.func21, Tryd.ntmps21
      go_wp2
      go_ret
      exact ⟨ret_bool Hu.out, rfl⟩
  · have hu := under_short p d e0 (by omega)
    have Hu := hide hu
    clear hu
    go_enter Tryd.func21, Tryd.ntmps21
    go_wp2
    go_ret
    exact ⟨ret_bool Hu.out, rfl⟩

def slashL (l : List UInt8) : Bool := l.any (· == 47)
set_option maxHeartbeats 400000 in
theorem slash28 (s : ByteArray) (w : World) (hs : s.size ≤ 100000) : Calls Tryd.prog 28 #[.string s] w fun e w' => e = .returned (.bool (slashL s.data.toList)) ∧ w = w' := by
  go_enter Tryd.func28, Tryd.ntmps28
  go_wp2
  go_loop [3] (fun i => ∃ k : Nat, k ≤ s.size ∧ i = .int .i64 k ∧ (s.data.toList.take k).all (fun c => !(c == 47)) = true) (fun i => s.size - (intOf i).toNat)
  case atStart => exact ⟨0, Nat.zero_le _, rfl, rfl⟩
  case round =>
    obtain ⟨k, hk, rfl, hall⟩ := hrel
    have Hall := hide hall
    clear hall
    by_cases hlt : k < s.size
    · have hbb : s[k].toNat < 256 := UInt8.toNat_lt _
      by_cases hx : s[k] = 47
      · have hb : ((s[k].toNat : Int) == 47) = true := by rw [hx]; rfl
        have hyes : true = slashL s.data.toList := by
          symm
          unfold slashL
          rw [List.any_eq_true]
          refine ⟨s[k], ?_, by rw [hx]; rfl⟩
          have : s[k] = s.data.toList[k]'(by simpa using hlt) := rfl
          rw [this]; exact List.getElem_mem _
        have Hyes := hide hyes
        clear hyes hx
        go_wp2
        go_ret
        exact ⟨ret_bool Hyes.out, rfl⟩
      · have hb : ((s[k].toNat : Int) == 47) = false := by
          rw [beq_eq_false_iff_ne]
          intro h
          exact hx (UInt8.toNat_inj.1 (by show _ = 47; omega))
        have hyes : (s.data.toList.take (k + 1)).all (fun c => !(c == 47)) = true := by
          rw [take_all_snoc s k hlt, Hall.out]
          simp [hx]
        have Hyes := hide hyes
        clear hyes hx
        go_wp2
        go_round
        case rel => exact ⟨k + 1, by omega, by go_num, Hyes.out⟩
        case measure => simp [intOf]; omega
    · have hno : false = slashL s.data.toList := by
        have := Hall.out
        rw [List.take_of_length_le (by simp; omega)] at this
        symm
        unfold slashL
        rw [List.any_eq_false]
        intro x hx
        rw [List.all_eq_true] at this
        simpa using this x hx
      have Hno := hide hno
      clear hno
      go_wp2
      go_ret
      exact ⟨ret_bool Hno.out, rfl⟩

end Go.Proofs.YtlabdaomgogflaaDoor
