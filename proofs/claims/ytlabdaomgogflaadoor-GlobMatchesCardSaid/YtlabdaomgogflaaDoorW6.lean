/- Walks of elements and of Right of the program. -/
import Derived.Test.YtlabdaomgogflaaDoorW5
namespace Go.Proofs.YtlabdaomgogflaaDoor
open Go.RowKit

theorem info9 : (Tryd.prog.info? 9).map (fun i => (i.zero, i.size, i.bytes)) = some (some (.string ⟨#[]⟩), 1, 16) := by kernel_rfl

theorem owns_below {w w' : World} {B e : Nat} {sz n : Nat} {v : Value} {xs : List Value} (h : w.ownsRow B e sz v n xs) (hb : Below w.heap.size w w') : w'.ownsRow B e sz v n xs := by
  obtain ⟨h1, h2⟩ := h
  refine ⟨h1, ?_⟩
  rcases h2 with h2 | ⟨g, cap, cur, hv, hg, hh, r⟩
  · exact Or.inl h2
  · exact Or.inr ⟨g, cap, cur, hv, hg, (hb.block g (lt_of_block hh)).trans hh, r⟩

def strV (es : List (List UInt8)) : List Value := es.map fun e => Value.string ⟨e.toArray⟩

def EInv (w : World) (s : ByteArray) (r : ByteArray) (done : List (List UInt8)) (v : Value) (wr : World) : Prop :=
  elems s.data.toList = (elems r.data.toList).map (done ++ ·) ∧ done.length + r.size ≤ s.size ∧ wr.ownsRow w.heap.size 9 1 v done.length (strV done) ∧ Below w.heap.size w wr

theorem EInv.step {w wr w2 : World} {s r : ByteArray} {done : List (List UInt8)} {v v' : Value} {n : Nat} (h : EInv w s r done v wr) (hr : 0 < r.size) (hn : firstEl r.data.toList = n) (h0 : n ≠ 0)
    (hown : w2.ownsRow w.heap.size 9 1 v' (done.length + 1) (strV done ++ [.string (r.extract 0 n)])) (hb : Below w.heap.size w w2) : EInv w s (r.extract n r.size) (done ++ [r.data.toList.take n]) v' w2 := by
  obtain ⟨h1, h2, _, _⟩ := h
  have hle := firstEl_le r.data.toList
  rw [hn, size_list] at hle
  refine ⟨?_, ?_, ?_, hb⟩
  · rw [h1, elems_cons _ (ne_nil r hr), hn, if_neg h0, toList_extract_end, Option.map_map]
    congr 1
    funext x
    simp
  · rw [List.length_append]
    simp
    omega
  · have e : strV (done ++ [r.data.toList.take n]) = strV done ++ [.string (r.extract 0 n)] := by
      unfold strV
      rw [List.map_append]
      congr 1
      simp only [List.map_cons, List.map_nil]
      congr 2
      apply ba_ext
      rw [toList_extract0]
    rw [e, List.length_append]
    exact hown

theorem fe49' (s : ByteArray) (n : Nat) (hn : firstEl s.data.toList = n) (w : World) (hs : s.size ≤ 100000) (h : 0 < s.size) : Calls Tryd.prog 49 #[.string s] w fun e w' => e = .returned (.int .i64 (n : Int)) ∧ Below w.heap.size w w' := by
  subst hn; exact fe49 s w hs h

set_option maxHeartbeats 1600000 in
theorem el36 (s : ByteArray) (w : World) (hs : s.size ≤ 100000) : Calls Tryd.prog 36 #[.string s] w fun e w' =>
    (elems s.data.toList = none → e = .returned (.tuple #[.slice none 0 0, .bool false])) ∧
    (∀ es, elems s.data.toList = some es → ∃ v, e = .returned (.tuple #[v, .bool true]) ∧ w'.ownsRow w.heap.size 9 1 v es.length (strV es)) ∧ Below w.heap.size w w' := by
  obtain ⟨i0, hi, hz0, hz1, hz2⟩ := info_parts info9
  go_enter Tryd.func36, Tryd.ntmps36
  go_wp2
  go_loopw [0, 4] (fun u v wr => ∃ (r : ByteArray) (done : List (List UInt8)), r.size ≤ 100000 ∧ u = .string r ∧ EInv w s r done v wr) (fun u _ _ => strN u)
  case atStart => exact ⟨s, [], hs, rfl, by simp, by simp, World.ownsRow_nil _ _ _ _, Below.refl _ _⟩
  case round =>
    obtain ⟨r, done, hr, rfl, hinv⟩ := hrel
    by_cases hr0 : r.size = 0
    · have e1 := is_empty r hr0
      have hel := hinv.1
      rw [is_nil r hr0, elems_nil] at hel
      simp only [Option.map_some, List.append_nil] at hel
      have Hel := hide hel
      have Hinv := hide hinv
      clear hel hinv
      go_wp2
      go_ret2
      refine ⟨fun h => ?_, fun es hes => ?_, Hinv.out.2.2.2⟩
      · rw [Hel.out] at h; cases h
      · rw [Hel.out] at hes
        cases hes
        exact ⟨_, rfl, Hinv.out.2.2.1⟩
    · have e1 := not_empty r (by omega)
      obtain ⟨n, hn⟩ : ∃ n, firstEl r.data.toList = n := ⟨_, rfl⟩
      have hle := firstEl_le r.data.toList
      rw [hn, size_list] at hle
      have Hn := hide hn
      have Hinv := hide hinv
      have hlen := hinv.2.1
      have hown := hinv.2.2.1
      have hbel := hinv.2.2.2
      clear hinv hn
      by_cases h0 : n = 0
      · have hel : elems s.data.toList = none := by rw [Hinv.out.1, elems_cons _ (ne_nil r (by omega)), if_pos (by rw [Hn.out, h0])]; rfl
        have Hel := hide hel
        clear hel hown
        subst h0
        go_wp2_with (go_at_call 49; refine (fe49' r 0 Hn.out _ hr (by omega)).mono ?_; rintro e w2 ⟨rfl, hb2⟩)
        go_ret2
        refine ⟨fun _ => rfl, fun es hes => ?_, hbel.trans (hb2.mono hbel.size)⟩
        rw [Hel.out] at hes; cases hes
      · have hb1 : ((n : Int) == 0) = false := beq_eq_false_iff_ne.2 (by omega)
        have hdl : done.length ≤ 200000 := by omega
        have Hown := hide hown
        have Hbel := hide hbel
        clear hown hbel
        go_wp2_with fail
        refine (fe49' r n Hn.out _ hr (by omega)).mono ?_
        rintro e w2 ⟨rfl, hb2⟩
        have hown2 := owns_below Hown.out hb2
        have hbel2 := Hbel.out.trans (hb2.mono Hbel.out.size)
        have hsz2 := hbel2.size
        go_wp2_with (at_builtin; refine wpList_append_own _ rfl (.tmp 12) (.tmp 16) 30 rfl w.heap.size 9 i0 (.string ⟨#[]⟩) 1 16 Tryd.underlying30 hi hz0 hz1 hz2 rfl (by decide) _ _ _ rfl (hown2.alloc _) ⟨w2.heap.size, 0, none⟩ 1 1 [.string (r.extract 0 n)] rfl rfl (c1_one _ _ _) (c2_str _) (by unfold maxLen; omega) (by omega) (c5_one _ _ _ hbel2) ?_)
        intro v' w3 hown' hgrow _
        have hbel3 := below_app hbel2 hown2 hgrow
        have hnext := Hinv.out.step (by omega) Hn.out h0 hown' hbel3
        have Hnext := hide hnext
        clear hnext hown' hgrow hown2 hbel2 hbel3
        go_wp2
        go_roundw
        case rel => exact ⟨r.extract n r.size, _, by simp; omega, rfl, Hnext.out⟩
        case measure => simp [strN]; omega

/-- In the two cases. -/
theorem el36_no (s : ByteArray) (w : World) (hs : s.size ≤ 100000) (h : elems s.data.toList = none) : Calls Tryd.prog 36 #[.string s] w fun e w' => e = .returned (.tuple #[.slice none 0 0, .bool false]) ∧ Below w.heap.size w w' :=
  (el36 s w hs).mono fun _ _ ⟨h1, _, h3⟩ => ⟨h1 h, h3⟩
theorem el36_yes (s : ByteArray) (es : List (List UInt8)) (w : World) (hs : s.size ≤ 100000) (h : elems s.data.toList = some es) : Calls Tryd.prog 36 #[.string s] w fun e w' => (∃ ao cap, e = .returned (.tuple #[.slice ao es.length cap, .bool true]) ∧ RdS w' ao es.length cap 1 (strV es)) ∧ Below w.heap.size w w' := by
  refine (el36 s w hs).mono ?_
  rintro e w' ⟨_, h2, h3⟩
  obtain ⟨v, rfl, hown⟩ := h2 es h
  obtain ⟨ao, cap, rfl, hr⟩ := (Rd.of_owns hown).s
  exact ⟨⟨ao, cap, rfl, hr⟩, h3⟩

theorem right_big (s : ByteArray) (h : 60 < s.size) : right s.data.toList = 4 := by
  unfold right; rw [if_pos (by rw [size_list]; exact h)]
theorem right_bad (s : ByteArray) (h : ¬ 60 < s.size) (k : Nat) (hk : k < s.size) (hb : badByte s[k] = true) : right s.data.toList = 3 := by
  unfold right
  rw [if_neg (by rw [size_list]; exact h), if_pos]
  rw [List.any_eq_true]
  refine ⟨s[k], ?_, hb⟩
  have : s[k] = s.data.toList[k]'(by simpa using hk) := rfl
  rw [this]; exact List.getElem_mem _
theorem right_last (s : ByteArray) (h : ¬ 60 < s.size) (k : Nat) (hk : k = s.size) (hb : (s.data.toList.take k).all (fun c => !badByte c) = true) : right s.data.toList = if (elems s.data.toList).isNone then 3 else 0 := by
  unfold right
  rw [if_neg (by rw [size_list]; exact h), if_neg]
  rw [List.take_of_length_le (by simp [hk])] at hb
  rw [List.any_eq_true]
  rintro ⟨x, hx, hx2⟩
  rw [List.all_eq_true] at hb
  have := hb x hx
  rw [hx2] at this
  cases this

set_option maxHeartbeats 1600000 in
theorem right22 (s : ByteArray) (w : World) (hs : s.size ≤ 100000) : Calls Tryd.prog 22 #[.string s] w fun e w' => e = .returned (.int .i64 (right s.data.toList)) ∧ Below w.heap.size w w' := by
  by_cases hbig : 60 < s.size
  · rw [right_big s hbig]
    go_enter Tryd.func22, Tryd.ntmps22
    go_wp2
    go_ret
    exact ⟨rfl, Below.refl _ _⟩
  have hbad := right_bad s hbig
  have hlast := right_last s hbig
  have Hbad := hide hbad
  have Hlast := hide hlast
  clear hbad hlast
  go_enter Tryd.func22, Tryd.ntmps22
  go_wp2
  go_loop [11] (fun i => ∃ k : Nat, k ≤ s.size ∧ i = .int .i64 k ∧ (s.data.toList.take k).all (fun c => !badByte c) = true) (fun i => s.size - (intOf i).toNat)
  case atStart => exact ⟨0, Nat.zero_le _, rfl, rfl⟩
  case round =>
    obtain ⟨k, hk, rfl, hall⟩ := hrel
    have Hall := hide hall
    clear hall
    by_cases hlt : k < s.size
    · have hbb : s[k].toNat < 256 := UInt8.toNat_lt _
      have hstep := take_all_snoc s k hlt (fun c => !badByte c)
      rw [Hall.out, Bool.true_and] at hstep
      have Hstep := hide hstep
      clear hstep
      rcases (show s[k].toNat < 33 ∨ (33 ≤ s[k].toNat ∧ s[k].toNat ≤ 126) ∨ (33 ≤ s[k].toNat ∧ 126 < s[k].toNat) from by omega) with h | ⟨h, h'⟩ | ⟨h, h'⟩
      · have hres := Hbad.out k hlt (by unfold badByte; exact decide_eq_true (Or.inl h))
        have Hres := hide hres
        clear hres
        go_wp2
        go_ret
        exact ⟨ret_int Hres.out.symm, Below.refl _ _⟩
      · have hres : (s.data.toList.take (k + 1)).all (fun c => !badByte c) = true := by
          rw [Hstep.out]
          unfold badByte
          rw [decide_eq_false (by omega)]
          rfl
        have Hres := hide hres
        clear hres
        go_wp2
        go_round
        case rel => exact ⟨k + 1, by omega, by go_num, Hres.out⟩
        case measure => simp [intOf]; omega
      · have hres := Hbad.out k hlt (by unfold badByte; exact decide_eq_true (Or.inr h'))
        have Hres := hide hres
        clear hres
        go_wp2
        go_ret
        exact ⟨ret_int Hres.out.symm, Below.refl _ _⟩
    · have hres := Hlast.out k (by omega) Hall.out
      cases hel : elems s.data.toList with
      | none =>
        rw [hel] at hres
        have Hres := hide hres
        have Hel := hide hel
        clear hres hel
        go_wp2_with (go_at_call 36; refine (el36_no s _ hs Hel.out).mono ?_; rintro e w1 ⟨rfl, hb1⟩)
        go_ret
        exact ⟨ret_int Hres.out.symm, hb1⟩
      | some es =>
        rw [hel] at hres
        have Hres := hide hres
        have Hel := hide hel
        clear hres hel
        go_wp2_with (go_at_call 36; refine (el36_yes s es _ hs Hel.out).mono ?_; rintro e w1 ⟨⟨ao, cap, rfl, _⟩, hb1⟩)
        go_ret
        exact ⟨ret_int Hres.out.symm, hb1⟩

end Go.Proofs.YtlabdaomgogflaaDoor
