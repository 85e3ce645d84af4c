/- strings.IndexAny of whatever string at the bytes of Prefix: IndexRune of a rune that is no ASCII; the loop over a short string. -/
import Derived.Test.YtlabdaomgogflaaDoorWD
import Derived.Laws.RangeAny
import Derived.BigQuiet
namespace Go.Proofs.YtlabdaomgogflaaDoor
open Go.RowKit

theorem enc_last (r : Int) (h : 128 ≤ r) : ∃ (rs : ByteArray) (n : Nat), Utf8.encode r = rs ∧ rs.size = n + 1 ∧ 1 ≤ n ∧ n ≤ 3 ∧ ∀ hn : n < rs.size, 128 ≤ (rs[n]'hn).toNat := by
  unfold Utf8.encode
  have hv : 128 ≤ (if Utf8.valid r then r.toNat else Utf8.runeError) := by
    split
    · omega
    · decide
  generalize (if Utf8.valid r then r.toNat else Utf8.runeError) = c at hv
  have hl : ∀ c : Nat, 128 ≤ (UInt8.ofNat (128 + c % 64)).toNat := fun c => by
    rw [UInt8.toNat_ofNat']; omega
  simp only []
  by_cases h1 : c < 2048
  · exact ⟨_, 1, by rw [if_neg (by omega), if_pos h1], rfl, by omega, by omega, fun _ => hl c⟩
  · by_cases h2 : c < 65536
    · exact ⟨_, 2, by rw [if_neg (by omega), if_neg h1, if_pos h2], rfl, by omega, by omega, fun _ => hl c⟩
    · exact ⟨_, 3, by rw [if_neg (by omega), if_neg h1, if_neg h2], rfl, by omega, by omega, fun _ => hl c⟩

theorem conv_rune (r : Int) (w : World) : (convert 21 9 (.int .i32 r)).run Tryd.prog w = .ok (.string (Utf8.encode r)) w :=
  run_convert_int_string w 21 9 .i32 r (by kernel_rfl) Tryd.underlying9

theorem ib_none (l : List UInt8) (x : UInt8) (h : ∀ y ∈ l, y ≠ x) : Lib.indexByte l x = -1 := by
  induction l with
  | nil => rfl
  | cons a l ih =>
    unfold Lib.indexByte
    rw [if_neg (by simpa using h a (by simp)), if_pos (by rw [ih (fun y hy => h y (by simp [hy]))]; rfl)]
theorem ib62_no (s : ByteArray) (x : UInt8) (h : ∀ y ∈ s.data.toList, y ≠ x) (w : World) : Calls Tryd.prog 62 #[.string s, .int .u8 (x.toNat : Int)] w fun e w' => e = .returned (.int .i64 (-1)) ∧ w = w' :=
  (Tryd.strings_IndexByte s (x.toNat : Int) w).mono fun _ _ ⟨h1, h2⟩ => ⟨by rw [h1, show (x.toNat : Int).toNat.toUInt8 = x by simp, ib_none _ _ h], h2.symm⟩

theorem quiet_left2 {P : Program} {f : FuncId} {args : Array Value} {w : World} {a n : Nat} {v : Value}
    (h : Calls P f args (w.drewN (a + n)) fun e w' => e = .returned v ∧ w.drewN (a + n) = w') : Calls P f args (w.drewN (a + n)) fun e w'' => e = .returned v ∧ ∃ m, w'' = w.drewN (a + m) :=
  h.mono fun _ _ ⟨he, hm⟩ => ⟨he, n, hm.symm⟩

set_option maxHeartbeats 2000000 in
set_option maxRecDepth 1000000 in
theorem ir51_in (s : ByteArray) (r : Int) (rs : ByteArray) (n : Nat) (he : Utf8.encode r = rs) (hn : rs.size = n + 1) (h1 : 1 ≤ n) (h3 : n ≤ 3) (hx : ∀ hn : n < rs.size, 128 ≤ (rs[n]'hn).toNat) (hr : 128 ≤ r) (hne : r ≠ 65533) (hv : Lib.validRune r = true) (w : World)
    (hasc : ∀ x ∈ s.data.toList, x.toNat < 128) (hns : n < s.size) (_hs : s.size ≤ 100000) :
    Calls Tryd.prog 51 #[.string s, .int .i32 r] w fun e w' => e = .returned (.int .i64 (-1)) ∧ Below w.heap.size w w' := by
  have hlt : n < rs.size := by omega
  have hlti : (n : Int) < (rs.size : Int) := by omega
  have hnsi : (n : Int) < (s.size : Int) := by omega
  have hx1 := hx hlt
  have hne' : (r == 65533) = false := by simpa using hne
  have hcv := fun w => conv_rune r w
  rw [he] at hcv
  have hvr := Tryd.utf8_ValidRune r
  rw [hv] at hvr
  have Hv := hide hvr
  have hbb : rs[n].toNat < 256 := UInt8.toNat_lt _
  have hsn : s[n].toNat < 128 := hasc _ (by
    have : s[n] = s.data.toList[n]'(by rw [size_list]; exact hns) := rfl
    rw [this]; exact List.getElem_mem _)
  have hneq : ((s[n].toNat : Int) != (rs[n].toNat : Int)) = true := by rw [bne_iff_ne]; omega
  have hib : ∀ y ∈ (s.extract (n + 1) s.size).data.toList, y ≠ rs[n] := fun y hy e => by
    rw [toList_extract_end] at hy
    have := hasc y (List.mem_of_mem_drop hy)
    rw [e] at this
    omega
  have Hib := hide hib
  have hnn : (rs.size : Int) - 1 = (n : Int) := by omega
  have hn0 : (0 : Int) ≤ (n : Int) := by omega
  have hn1 : (n : Int) + 1 ≤ (s.size : Int) := by omega
  have hwr : IntKind.i64.wrap ((n : Int) + 1) = (n : Int) + 1 := IntWalk.i64_in _ ⟨by omega, by omega⟩
  have h0n : (0 : Int) ≤ (n : Int) + 1 := by omega
  have htn : ((n : Int) + 1).toNat = n + 1 := by omega
  have hrsz : rs.size ≤ 4 := by omega
  clear hx hne he hvr hasc hib hv hn
  go_enter Tryd.func51, Tryd.ntmps51
  go_wp2_with (go_at_call 64; refine (Hv.out _).mono ?_; rintro e w' ⟨rfl, rfl⟩)
  go_step3
  go_wp2
  refine wp_loop_once ?_
  go_wp2
  go_step3
  go_wp2
  go_quiet (fail)
  go_wp2
  go_quiet ((go_at_call 62; exact quiet_left2 (ib62_no _ _ Hib.out _)))
  go_wp2
  dsimp +zetaDelta only [Exit.noGoto, Exit.inBlock, Exit.then]
  go_ret
  exact ⟨rfl, Drawn.below ⟨_, rfl⟩ _⟩

set_option maxHeartbeats 2000000 in
set_option maxRecDepth 1000000 in
theorem ir51_out (s : ByteArray) (r : Int) (rs : ByteArray) (n : Nat) (he : Utf8.encode r = rs) (hn : rs.size = n + 1) (h1 : 1 ≤ n) (h3 : n ≤ 3) (hr : 128 ≤ r) (hne : r ≠ 65533) (hv : Lib.validRune r = true) (w : World)
    (hns : ¬ n < s.size) :
    Calls Tryd.prog 51 #[.string s, .int .i32 r] w fun e w' => e = .returned (.int .i64 (-1)) ∧ Below w.heap.size w w' := by
  have hnsi : (s.size : Int) ≤ (n : Int) := by omega
  have hne' : (r == 65533) = false := by simpa using hne
  have hcv := fun w => conv_rune r w
  rw [he] at hcv
  have hvr := Tryd.utf8_ValidRune r
  rw [hv] at hvr
  have Hv := hide hvr
  have hnn : (rs.size : Int) - 1 = (n : Int) := by omega
  have hrsz : rs.size ≤ 4 := by omega
  clear hne he hvr hv hn
  go_enter Tryd.func51, Tryd.ntmps51
  go_wp2_with (go_at_call 64; refine (Hv.out _).mono ?_; rintro e w' ⟨rfl, rfl⟩)
  go_step3
  go_wp2
  refine wp_loop_once ?_
  go_wp2
  rw [Exit.noGoto_ret]
  go_ret
  exact ⟨rfl, Below.refl _ _⟩

set_option maxHeartbeats 2000000 in
set_option maxRecDepth 1000000 in
theorem ir51_bad (s : ByteArray) (r : Int) (hr : 128 ≤ r) (hne : r ≠ 65533) (hv : Lib.validRune r = false) (w : World) :
    Calls Tryd.prog 51 #[.string s, .int .i32 r] w fun e w' => e = .returned (.int .i64 (-1)) ∧ Below w.heap.size w w' := by
  have hne' : (r == 65533) = false := by simpa using hne
  have hvr := Tryd.utf8_ValidRune r
  rw [hv] at hvr
  have Hv := hide hvr
  clear hne hvr hv
  go_enter Tryd.func51, Tryd.ntmps51
  go_wp2_with (go_at_call 64; refine (Hv.out _).mono ?_; rintro e w' ⟨rfl, rfl⟩)
  go_ret
  exact ⟨rfl, Below.refl _ _⟩

set_option maxHeartbeats 2000000 in
set_option maxRecDepth 1000000 in
theorem ir51_err (s : ByteArray) (w : World) (hasc : ∀ x ∈ s.data.toList, x.toNat < 128) :
    Calls Tryd.prog 51 #[.string s, .int .i32 65533] w fun e w' => e = .returned (.int .i64 (-1)) ∧ Below w.heap.size w w' := by
  have Hasc := hide hasc
  clear hasc
  go_enter Tryd.func51, Tryd.ntmps51
  go_wp2
  go_loopg [5, 6] s.size (fun g _ _ wx => ∃ i : Nat, i + g = s.size ∧ wx = w.iter s i)
  case atStart => exact ⟨0, by omega, rfl⟩
  case round =>
    obtain ⟨i, hig, rfl⟩ := hrel
    cases gk with
    | zero =>
      obtain rfl : i = s.size := by omega
      have hnx := run_next_end (P := Tryd.prog) w s s.size
      go_wp2
      go_ret
      exact ⟨rfl, bnew (Below.refl _ _) _⟩
    | succ g =>
      have hi : i < s.size := by omega
      have hx128 : s[i].toNat < 128 := Hasc.out _ (by
        have : s[i] = s.data.toList[i]'(by rw [size_list]; exact hi) := rfl
        rw [this]; exact List.getElem_mem _)
      have hnx := fun ty => run_next_ascii (P := Tryd.prog) w s i ty hi hx128
      have hbn : ((s[i].toNat : Int) == 65533) = false := beq_eq_false_iff_ne.2 (by omega)
      go_wp2
      go_roundg g
      case measure => omega
      case rel => exact ⟨i + 1, by omega, rfl⟩

theorem ir51 (s : ByteArray) (r : Int) (hr : 128 ≤ r) (hasc : ∀ x ∈ s.data.toList, x.toNat < 128) (hs : s.size ≤ 100000) (w : World) :
    Calls Tryd.prog 51 #[.string s, .int .i32 r] w fun e w' => e = .returned (.int .i64 (-1)) ∧ Below w.heap.size w w' := by
  by_cases hne : r = 65533
  · subst hne
    exact ir51_err s w hasc
  · cases hv : Lib.validRune r
    · exact ir51_bad s r hr hne hv w
    · obtain ⟨rs, n, he, hn, h1, h3, hx⟩ := enc_last r hr
      by_cases hns : n < s.size
      · exact ir51_in s r rs n he hn h1 h3 hx hr hne hv w hasc hns hs
      · exact ir51_out s r rs n he hn h1 h3 hr hne hv w hns

theorem dec_span (s : ByteArray) (pos : Nat) (h : pos < s.size) (ha : 128 ≤ (s[pos]'h).toNat) : pos + (Utf8.decode s pos).2 ≤ s.size ∧ ∀ j (hj : j < s.size), pos ≤ j → j < pos + (Utf8.decode s pos).2 → 128 ≤ (s[j]'hj).toNat := by
  have key : (Utf8.decode s pos).2 = 1 ∨ ((Utf8.decode s pos).2 = 2 ∧ (pos + 1 < s.size ∧ (s.get! (pos + 1)).toNat / 64 = 2)) ∨ ((Utf8.decode s pos).2 = 3 ∧ (pos + 1 < s.size ∧ (s.get! (pos + 1)).toNat / 64 = 2) ∧ (pos + 2 < s.size ∧ (s.get! (pos + 2)).toNat / 64 = 2)) ∨
      ((Utf8.decode s pos).2 = 4 ∧ (pos + 1 < s.size ∧ (s.get! (pos + 1)).toNat / 64 = 2) ∧ (pos + 2 < s.size ∧ (s.get! (pos + 2)).toNat / 64 = 2) ∧ (pos + 3 < s.size ∧ (s.get! (pos + 3)).toNat / 64 = 2)) := by
    simp only [Utf8.decode]
    repeat' split
    all_goals simp_all
  have hg : ∀ k (hk : pos + k < s.size), (s.get! (pos + k)).toNat = (s[pos + k]'hk).toNat := fun k hk => by
    have := get_at s (pos + k) hk
    rw [Nat.add_zero] at this
    rw [this]
  rcases key with hk | ⟨hk, h1⟩ | ⟨hk, h1, h2⟩ | ⟨hk, h1, h2, h3⟩
  · rw [hk]
    refine ⟨by omega, fun j hj h1 h2 => ?_⟩
    obtain rfl : j = pos := by omega
    exact ha
  · rw [hk]
    refine ⟨by omega, fun j hj h4 h5 => ?_⟩
    rcases (show j = pos ∨ j = pos + 1 by omega) with rfl | rfl
    · exact ha
    · have := hg 1 h1.1; omega
  · rw [hk]
    refine ⟨by omega, fun j hj h4 h5 => ?_⟩
    rcases (show j = pos ∨ j = pos + 1 ∨ j = pos + 2 by omega) with rfl | rfl | rfl
    · exact ha
    · have := hg 1 h1.1; omega
    · have := hg 2 h2.1; omega
  · rw [hk]
    refine ⟨by omega, fun j hj h4 h5 => ?_⟩
    rcases (show j = pos ∨ j = pos + 1 ∨ j = pos + 2 ∨ j = pos + 3 by omega) with rfl | rfl | rfl | rfl
    · exact ha
    · have := hg 1 h1.1; omega
    · have := hg 2 h2.1; omega
    · have := hg 3 h3.1; omega

end Go.Proofs.YtlabdaomgogflaaDoor
