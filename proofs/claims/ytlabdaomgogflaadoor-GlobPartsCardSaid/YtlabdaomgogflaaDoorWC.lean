/- The walk of the law on the parts of paths. -/
import Derived.Test.YtlabdaomgogflaaDoorWD
namespace Go.Proofs.YtlabdaomgogflaaDoor
open Go.RowKit

theorem cut_cases (s : ByteArray) (c : UInt8) : (cut s (c.toNat : Int) = 0 ∧ ∀ x ∈ s.data.toList, x ≠ c) ∨
    ∃ i, cut s (c.toNat : Int) = i + 1 ∧ i < s.size ∧ s.data.toList = s.data.toList.take i ++ c :: s.data.toList.drop (i + 1) ∧ ∀ x ∈ s.data.toList.drop (i + 1), x ≠ c := by
  unfold cut
  rcases Lib.lastIndexByte_spec s (c.toNat : Int) with ⟨h, hn⟩ | ⟨i, hi, h, hc, hn⟩
  · refine Or.inl ⟨by rw [h]; rfl, fun x hx => ?_⟩
    obtain ⟨j, hj, rfl⟩ := List.mem_iff_getElem.1 hx
    have hj' : j < s.size := by rw [size_list] at hj; exact hj
    have := hn j hj'
    rw [at_bang s j hj'] at this
    intro e
    apply this
    have e2 : s.data.toList[j] = s[j] := rfl
    rw [← e2, e]
  · refine Or.inr ⟨i, by rw [h]; omega, hi, ?_, fun x hx => ?_⟩
    · have h1 : i < s.data.toList.length := by rw [size_list]; exact hi
      rw [at_bang s i hi] at hc
      have e2 : s.data.toList[i] = c := UInt8.toNat_inj.1 (by show s[i].toNat = _; omega)
      conv => lhs; rw [← List.take_append_drop i s.data.toList, List.drop_eq_getElem_cons h1, e2]
    · obtain ⟨j, hj, rfl⟩ := List.mem_iff_getElem.1 hx
      rw [List.length_drop, size_list] at hj
      have hj' : i + 1 + j < s.size := by omega
      have := hn (i + 1 + j) (by omega) hj'
      rw [at_bang s _ hj'] at this
      intro e
      apply this
      rw [List.getElem_drop] at e
      have e2 : s.data.toList[i + 1 + j]'(by rw [size_list]; exact hj') = s[i + 1 + j] := rfl
      rw [← e2, e]

theorem slash_none {l : List UInt8} (h : ∀ x ∈ l, x ≠ 47) : slashL l = false := by
  unfold slashL
  rw [List.any_eq_false]
  intro x hx
  simpa using h x hx

/-- What the law says of a path without a slash. -/
theorem parts_no (p : ByteArray) (h : slashL p.data.toList = false) : baseB p = p ∧ dirB p = ByteArray.empty := by
  rcases cut_cases p 47 with ⟨h1, _⟩ | ⟨i, h1, hi, h2, _⟩
  · have h1' : cut p 47 = 0 := h1
    unfold baseB dirB
    rw [h1', if_pos rfl]
    exact ⟨ba_ext (by rw [toList_extract_end]; rfl), rfl⟩
  · rw [h2] at h
    unfold slashL at h
    rw [List.any_append, List.any_cons] at h
    simp at h
theorem parts_yes (p : ByteArray) (h : slashL p.data.toList = true) : dirB p ++ ⟨#[47]⟩ ++ baseB p = p ∧ underL p.data.toList (dirB p).data.toList = true := by
  rcases cut_cases p 47 with ⟨h1, hn⟩ | ⟨i, h1, hi, h2, _⟩
  · rw [slash_none hn] at h; cases h
  · have h1' : cut p 47 = i + 1 := h1
    have hd : (dirB p).data.toList = p.data.toList.take i := by
      unfold dirB
      rw [h1', if_neg (by omega), toList_extract0]
      rfl
    have hb : (baseB p).data.toList = p.data.toList.drop (i + 1) := by
      unfold baseB
      rw [h1', toList_extract_end]
    refine ⟨ba_ext ?_, ?_⟩
    · rw [ByteArray.data_append, ByteArray.data_append, Array.toList_append, Array.toList_append, hd, hb]
      conv => rhs; rw [h2]
      simp
    · unfold underL Lib.hasPrefix
      rw [Bool.or_eq_true, List.isPrefixOf_iff_prefix, hd]
      refine Or.inr ⟨p.data.toList.drop (i + 1), ?_⟩
      conv => rhs; rw [h2]
      simp
theorem base_no_slash (p : ByteArray) : slashL (baseB p).data.toList = false := by
  rcases cut_cases p 47 with ⟨h1, hn⟩ | ⟨i, h1, hi, h2, h3⟩
  · have h1' : cut p 47 = 0 := h1
    apply slash_none
    unfold baseB
    rw [h1', toList_extract_end]
    exact hn
  · have h1' : cut p 47 = i + 1 := h1
    apply slash_none
    unfold baseB
    rw [h1', toList_extract_end]
    exact h3
/-- The extension: empty, or behind the last dot of the base. -/
theorem ext_cases (p : ByteArray) : (extB p).toList.isEmpty = true ∨ ∃ j, (extB p).toList.isEmpty = false ∧ j + 1 + (extB p).size = (baseB p).size ∧ (baseB p).extract j (baseB p).size = ⟨#[46]⟩ ++ extB p := by
  unfold extB
  generalize baseB p = b
  rcases cut_cases b 46 with ⟨h1, hn⟩ | ⟨i, h1, hi, h2, h3⟩
  · have h1' : cut b 46 = 0 := h1
    rw [h1', if_pos rfl]
    exact Or.inl (is_empty _ rfl)
  · have h1' : cut b 46 = i + 1 := h1
    rw [h1', if_neg (by omega)]
    by_cases h0 : i + 1 = b.size
    · exact Or.inl (is_empty _ (by simp; omega))
    · refine Or.inr ⟨i, not_empty _ (by simp; omega), by simp; omega, ba_ext ?_⟩
      rw [toList_extract_end, ByteArray.data_append, Array.toList_append, toList_extract_end]
      conv => lhs; rw [h2]
      rw [List.drop_left' (by rw [List.length_take, size_list]; omega)]
      rfl

theorem under_put (d p : ByteArray) : underL (d ++ ⟨#[47]⟩ ++ p).data.toList d.data.toList = true := by
  unfold underL Lib.hasPrefix
  rw [Bool.or_eq_true, List.isPrefixOf_iff_prefix]
  refine Or.inr ⟨p.data.toList, ?_⟩
  rw [ByteArray.data_append, ByteArray.data_append, Array.toList_append, Array.toList_append]
theorem under_empty (p : List UInt8) : underL p [] = true := rfl
theorem under20' (p d : ByteArray) (b : Bool) (hb : underL p.data.toList d.data.toList = b) (w : World) : Calls Tryd.prog 20 #[.string p, .string d] w fun e w' => e = .returned (.bool b) ∧ w = w' := by
  subst hb; exact under20 p d w

set_option maxHeartbeats 3200000 in
theorem law7_in (p d : ByteArray) (w : World) (hm : HasM w) (h1 : p.size ≤ 200) (h2 : d.size ≤ 200) : Calls Tryd.prog 7 #[.string p, .string d] w fun e w' => e = .returned (.bool true) ∧ Below w.heap.size w w' := by
  have hb14 := fun w => base14 p w (by omega)
  have hd16 := fun w => dir16 p w (by omega)
  have hx18 := fun w => ext18 p w (by omega)
  have hns := base_no_slash p
  have hbs := base_size p
  have hext := ext_cases p
  have hno := parts_no p
  have hyes := parts_yes p
  have hup := under_put d p
  generalize baseB p = b at *
  generalize dirB p = f at *
  generalize extB p = x at *
  cases hs : slashL p.data.toList
  · obtain ⟨rfl, rfl⟩ := hno hs
    have Hs := hide hs
    have Hns := hide hns
    have Hup := hide hup
    clear hs hns hyes hno hup
    rcases hext with he | ⟨j, he, hj, hsl⟩
    · clear hbs
      go_enter Tryd.func7, Tryd.ntmps7
      go_wp2_with fail
      refine (alive10 _ hm).mono ?_
      rintro e w1 ⟨rfl, hb1⟩
      go_wp2_with fail
      refine (short_t b h1 _).mono ?_
      rintro e w' ⟨rfl, rfl⟩
      go_wp2_with fail
      refine (short_t d h2 _).mono ?_
      rintro e w' ⟨rfl, rfl⟩
      go_wp2_with fail
      refine (hd16 _).mono ?_
      rintro e w' ⟨rfl, rfl⟩
      go_wp2_with fail
      refine (hb14 _).mono ?_
      rintro e w' ⟨rfl, rfl⟩
      go_wp2_with fail
      refine (hx18 _).mono ?_
      rintro e w' ⟨rfl, rfl⟩
      go_wp2_with fail
      refine (slash28' b _ Hns.out _ (by omega)).mono ?_
      rintro e w' ⟨rfl, rfl⟩
      go_wp2_with fail
      refine (slash28' b _ Hs.out _ (by omega)).mono ?_
      rintro e w' ⟨rfl, rfl⟩
      go_wp2_with fail
      refine (slash28' b _ Hs.out _ (by omega)).mono ?_
      rintro e w' ⟨rfl, rfl⟩
      go_wp2_with fail
      refine (under20' _ d _ Hup.out _).mono ?_
      rintro e w' ⟨rfl, rfl⟩
      go_wp2_with fail
      refine (under20' b ⟨#[]⟩ true rfl _).mono ?_
      rintro e w' ⟨rfl, rfl⟩
      go_wp2
      go_ret
      exact ⟨rfl, hb1⟩
    · have hjj : (b.size : Int) - (x.size : Int) - 1 = (j : Int) := by omega
      clear hbs
      go_enter Tryd.func7, Tryd.ntmps7
      go_wp2_with fail
      refine (alive10 _ hm).mono ?_
      rintro e w1 ⟨rfl, hb1⟩
      go_wp2_with fail
      refine (short_t b h1 _).mono ?_
      rintro e w' ⟨rfl, rfl⟩
      go_wp2_with fail
      refine (short_t d h2 _).mono ?_
      rintro e w' ⟨rfl, rfl⟩
      go_wp2_with fail
      refine (hd16 _).mono ?_
      rintro e w' ⟨rfl, rfl⟩
      go_wp2_with fail
      refine (hb14 _).mono ?_
      rintro e w' ⟨rfl, rfl⟩
      go_wp2_with fail
      refine (hx18 _).mono ?_
      rintro e w' ⟨rfl, rfl⟩
      go_wp2_with fail
      refine (slash28' b _ Hns.out _ (by omega)).mono ?_
      rintro e w' ⟨rfl, rfl⟩
      go_wp2_with fail
      refine (slash28' b _ Hs.out _ (by omega)).mono ?_
      rintro e w' ⟨rfl, rfl⟩
      go_wp2_with fail
      refine (slash28' b _ Hs.out _ (by omega)).mono ?_
      rintro e w' ⟨rfl, rfl⟩
      go_wp2_with fail
      refine (under20' _ d _ Hup.out _).mono ?_
      rintro e w' ⟨rfl, rfl⟩
      go_wp2_with fail
      refine (under20' b ⟨#[]⟩ true rfl _).mono ?_
      rintro e w' ⟨rfl, rfl⟩
      go_wp2
      go_ret
      exact ⟨rfl, hb1⟩
  · obtain ⟨hfb, hu⟩ := hyes hs
    have hfs : f.size + 1 + b.size = p.size := by
      have := congrArg ByteArray.size hfb
      rw [ByteArray.size_append, ByteArray.size_append] at this
      exact this
    have Hs := hide hs
    have Hns := hide hns
    have Hup := hide hup
    have Hu := hide hu
    clear hs hns hyes hno hup hu
    rcases hext with he | ⟨j, he, hj, hsl⟩
    · skip
      go_enter Tryd.func7, Tryd.ntmps7
      go_wp2_with fail
      refine (alive10 _ hm).mono ?_
      rintro e w1 ⟨rfl, hb1⟩
      go_wp2_with fail
      refine (short_t p h1 _).mono ?_
      rintro e w' ⟨rfl, rfl⟩
      go_wp2_with fail
      refine (short_t d h2 _).mono ?_
      rintro e w' ⟨rfl, rfl⟩
      go_wp2_with fail
      refine (hd16 _).mono ?_
      rintro e w' ⟨rfl, rfl⟩
      go_wp2_with fail
      refine (hb14 _).mono ?_
      rintro e w' ⟨rfl, rfl⟩
      go_wp2_with fail
      refine (hx18 _).mono ?_
      rintro e w' ⟨rfl, rfl⟩
      go_wp2_with fail
      refine (slash28' b _ Hns.out _ (by omega)).mono ?_
      rintro e w' ⟨rfl, rfl⟩
      go_wp2_with fail
      refine (slash28' p _ Hs.out _ (by omega)).mono ?_
      rintro e w' ⟨rfl, rfl⟩
      go_wp2_with fail
      refine (under20' p f _ Hu.out _).mono ?_
      rintro e w' ⟨rfl, rfl⟩
      go_wp2_with fail
      refine (slash28' p _ Hs.out _ (by omega)).mono ?_
      rintro e w' ⟨rfl, rfl⟩
      go_wp2_with fail
      refine (under20' _ d _ Hup.out _).mono ?_
      rintro e w' ⟨rfl, rfl⟩
      go_wp2_with fail
      refine (under20' p ⟨#[]⟩ true rfl _).mono ?_
      rintro e w' ⟨rfl, rfl⟩
      go_wp2
      go_ret
      exact ⟨rfl, hb1⟩
    · have hjj : (b.size : Int) - (x.size : Int) - 1 = (j : Int) := by omega
      go_enter Tryd.func7, Tryd.ntmps7
      go_wp2_with fail
      refine (alive10 _ hm).mono ?_
      rintro e w1 ⟨rfl, hb1⟩
      go_wp2_with fail
      refine (short_t p h1 _).mono ?_
      rintro e w' ⟨rfl, rfl⟩
      go_wp2_with fail
      refine (short_t d h2 _).mono ?_
      rintro e w' ⟨rfl, rfl⟩
      go_wp2_with fail
      refine (hd16 _).mono ?_
      rintro e w' ⟨rfl, rfl⟩
      go_wp2_with fail
      refine (hb14 _).mono ?_
      rintro e w' ⟨rfl, rfl⟩
      go_wp2_with fail
      refine (hx18 _).mono ?_
      rintro e w' ⟨rfl, rfl⟩
      go_wp2_with fail
      refine (slash28' b _ Hns.out _ (by omega)).mono ?_
      rintro e w' ⟨rfl, rfl⟩
      go_wp2_with fail
      refine (slash28' p _ Hs.out _ (by omega)).mono ?_
      rintro e w' ⟨rfl, rfl⟩
      go_wp2_with fail
      refine (under20' p f _ Hu.out _).mono ?_
      rintro e w' ⟨rfl, rfl⟩
      go_wp2_with fail
      refine (slash28' p _ Hs.out _ (by omega)).mono ?_
      rintro e w' ⟨rfl, rfl⟩
      go_wp2_with fail
      refine (under20' _ d _ Hup.out _).mono ?_
      rintro e w' ⟨rfl, rfl⟩
      go_wp2_with fail
      refine (under20' p ⟨#[]⟩ true rfl _).mono ?_
      rintro e w' ⟨rfl, rfl⟩
      go_wp2
      go_ret
      exact ⟨rfl, hb1⟩

set_option maxHeartbeats 1600000 in
theorem law7 (p d : ByteArray) (w : World) (hm : HasM w) (hp : p.size ≤ 9223372036854775807) (hd : d.size ≤ 9223372036854775807) : Calls Tryd.prog 7 #[.string p, .string d] w fun e w' => e = .returned (.bool true) ∧ Below w.heap.size w w' := by
  by_cases h1 : p.size ≤ 200
  · by_cases h2 : d.size ≤ 200
    · exact law7_in p d w hm h1 h2
    · go_enter Tryd.func7, Tryd.ntmps7
      go_wp2_with fail
      refine (alive10 _ hm).mono ?_
      rintro e w1 ⟨rfl, hb1⟩
      go_wp2_with fail
      refine (short_t p h1 _).mono ?_
      rintro e w' ⟨rfl, rfl⟩
      go_wp2_with fail
      refine (short_f d h2 _ hd).mono ?_
      rintro e w' ⟨rfl, rfl⟩
      go_wp2
      go_ret
      exact ⟨rfl, hb1⟩
  · go_enter Tryd.func7, Tryd.ntmps7
    go_wp2_with fail
    refine (alive10 _ hm).mono ?_
    rintro e w1 ⟨rfl, hb1⟩
    go_wp2_with fail
    refine (short_f p h1 _ hp).mono ?_
    rintro e w' ⟨rfl, rfl⟩
    go_wp2
    go_ret
    exact ⟨rfl, hb1⟩

end Go.Proofs.YtlabdaomgogflaaDoor
