/- strings.IndexAny of whatever string at the three bytes of Prefix; Prefix of the program. -/
import Derived.Test.YtlabdaomgogflaaDoorWE
import Derived.Test.YtlabdaomgogflaaDoorPp
import Derived.Lib.OthersKept
namespace Go.Proofs.YtlabdaomgogflaaDoor
open Go.RowKit Go.Lib

theorem noany_span {s : ByteArray} {chars : List UInt8} {i k : Nat} (h : Lib.NoAny s.data.toList chars i) (hs : ∀ j (hj : j < s.size), i ≤ j → j < i + k → chars.contains (s[j]'hj) = false) : Lib.NoAny s.data.toList chars (i + k) := by
  intro j b hj hb
  by_cases hji : j < i
  · exact h j b hji hb
  · have hjs : j < s.size := by
      have := (List.getElem?_eq_some_iff.1 hb).1
      rwa [size_list] at this
    have := hs j hjs (by omega) hj
    rw [list_at s j hjs] at hb
    cases hb
    exact this
theorem high_not (x : UInt8) (h : 128 ≤ x.toNat) : ([42, 63, 91] : List UInt8).contains x = false := by
  rw [Bool.eq_false_iff]
  intro hc
  simp at hc
  rcases hc with rfl | rfl | rfl <;> simp at h

def ItAt (w : World) (s : ByteArray) (i : Nat) (wx : World) : Prop := wx.heap[w.heap.size]? = some (.stringIter s i) ∧ Below w.heap.size w wx
theorem ItAt.start (w : World) (s : ByteArray) : ItAt w s 0 (w.iter s 0) := ⟨World.iter_heap w s 0, bnew (Below.refl _ _) _⟩
theorem ItAt.lt {w wx : World} {s : ByteArray} {i : Nat} (h : ItAt w s i wx) : w.heap.size < wx.heap.size := (Array.getElem?_eq_some_iff.1 h.1).1
theorem ItAt.next {w wx w2 : World} {s : ByteArray} {i j : Nat} (h : ItAt w s i wx) (hb : Below (wx.iterAt w.heap.size s j).heap.size (wx.iterAt w.heap.size s j) w2) : ItAt w s j w2 := by
  have h1 := iterAt_heap wx w.heap.size s i j h.1
  have h2 : w.heap.size < (wx.iterAt w.heap.size s j).heap.size := by rw [iterAt_size]; exact h.lt
  refine ⟨(hb.block _ h2).trans h1, ?_⟩
  exact (below_iterAt h.2 (Nat.le_refl _) s j).trans (hb.mono (by omega))

theorem ira (chars : ByteArray) (hch : chars.data.toList = [42, 63, 91]) (x : UInt8) (ha : x.toNat < 128) (o : Int) (ho : Lib.indexByte [42, 63, 91] x = o) (w : World) : Calls Tryd.prog 51 #[.string chars, .int .i32 (x.toNat : Int)] w fun e w' => e = .returned (.int .i64 o) ∧ w = w' := by
  subst ho
  refine (Tryd.strings_IndexRune_ascii chars (x.toNat : Int) w (by omega) (by omega)).mono ?_
  rintro e w' ⟨rfl, rfl⟩
  rw [hch, show (x.toNat : Int).toNat.toUInt8 = x by simp]
  exact ⟨rfl, rfl⟩

set_option maxHeartbeats 4000000 in
set_option maxRecDepth 1000000 in
theorem ia38_short (s chars : ByteArray) (hch : chars.data.toList = [42, 63, 91]) (w : World) (h8 : s.size ≤ 8) :
    Calls Tryd.prog 38 #[.string s, .string chars] w fun e w' => e = .returned (.int .i64 (Lib.indexAny s.data.toList [42, 63, 91])) ∧ Below w.heap.size w w' := by
  have hsz : chars.size = 3 := by rw [← size_list, hch]; rfl
  have hemp := not_empty chars (by omega)
  have hn1 : ((chars.size : Int) == 1) = false := beq_eq_false_iff_ne.2 (by omega)
  have h8z : decide ((8 : Int) < (s.size : Int)) = false := decide_eq_false (by omega)
  have hasc : ∀ x ∈ chars.data.toList, x.toNat < 128 := by rw [hch]; decide
  have Hasc := hide hasc
  have Hch := hide hch
  clear hasc hch
  go_enter Tryd.func38, Tryd.ntmps38
  go_wp2_with (go_at_call 52; refine (Tryd.strings_shouldUseASCIISet _ _).mono ?_; rintro e w' ⟨rfl, hw⟩; rw [hw, h8z])
  go_loopg [9, 10] s.size (fun g _ _ wx => ∃ i : Nat, i + g = s.size ∧ ItAt w s i wx ∧ Lib.NoAny s.data.toList [42, 63, 91] i)
  case atStart => exact ⟨0, by omega, ItAt.start w s, Lib.NoAny.zero _ _⟩
  case round =>
    obtain ⟨i, hig, hit, hno⟩ := hrel
    have HN := hide hno
    have Hit := hide hit
    clear hno
    by_cases hi : i < s.size
    · by_cases ha : (s[i]'hi).toNat < 128
      · have hnx := fun ty => run_next_ascii_at (P := Tryd.prog) _ w.heap.size s i ty hit.1 hi ha
        obtain ⟨x, hx⟩ : ∃ x : UInt8, s[i]'hi = x := ⟨_, rfl⟩
        have hxl : s.data.toList[i]? = some x := by rw [← hx]; exact list_at s i hi
        rw [hx] at ha
        have hnx' : ∀ ty, (Instr.next (.pointer (some ⟨w.heap.size, 0, none⟩)) true ty).run Tryd.prog wr = .ok (.tuple #[.bool true, .int .i64 i, .int .i32 (x.toNat : Int)]) (wr.iterAt w.heap.size s (i + 1)) := fun ty => by
          rw [← hx]; exact hnx ty
        clear hnx hit hx
        have hcon := Lib.contains_iff_indexByte [42, 63, 91] x
        obtain ⟨o, ho⟩ : ∃ o, Lib.indexByte [42, 63, 91] x = o := ⟨_, rfl⟩
        have hge := Lib.indexByte_ge [42, 63, 91] x
        rw [ho] at hcon hge
        have Ho := hide ho
        have Hxl := hide hxl
        have hol : o ≤ 3 := by have := indexByte_bound [42, 63, 91] x; rw [ho] at this; simp at this; omega
        clear ho hxl
        by_cases hlt : (0 : Int) ≤ o
        · have hin : ([42, 63, 91] : List UInt8).contains x = true := by rw [hcon]; exact decide_eq_true hlt
          have hres := Lib.indexAny_hit HN.out Hxl.out hin
          have Hres := hide hres
          clear hres hin hcon
          go_wp2_with (go_at_call 51; refine (ira chars Hch.out x ha o Ho.out _).mono ?_; rintro e w' ⟨rfl, rfl⟩)
          go_ret
          exact ⟨ret_int Hres.out.symm, below_iterAt Hit.out.2 (Nat.le_refl _) _ _⟩
        · have hin : ([42, 63, 91] : List UInt8).contains x = false := by rw [hcon]; exact decide_eq_false hlt
          have hnext := HN.out.succ Hxl.out hin
          have Hnext := hide hnext
          clear hnext hin hcon
          go_wp2_with (go_at_call 51; refine (ira chars Hch.out x ha o Ho.out _).mono ?_; rintro e w' ⟨rfl, rfl⟩)
          go_roundg (s.size - (i + 1))
          case measure => omega
          case rel => exact ⟨i + 1, by omega, Hit.out.next (Below.refl _ _), Hnext.out⟩
      · have hnx := fun ty => run_next_any_at (P := Tryd.prog) _ w.heap.size s i ty hit.1 hi
        have hh := decode_high s i hi (by omega)
        have hle := decode_le s i
        obtain ⟨hsp1, hsp2⟩ := dec_span s i hi (by omega)
        have hnext := noany_span HN.out (fun j hj h1 h2 => high_not _ (hsp2 j hj h1 h2))
        generalize (Utf8.decode s i).1 = r at hnx hh hle
        generalize (Utf8.decode s i).2 = k at hnx hh hsp1 hnext
        have Hnext := hide hnext
        obtain ⟨hr, hk⟩ := hh
        clear hnext hit hsp2
        go_wp2_with fail
        refine (ir51 chars (r : Int) (by omega) Hasc.out (by omega) _).mono ?_
        rintro e w2 ⟨rfl, hb2⟩
        have hit2 := Hit.out.next hb2
        have Hit2 := hide hit2
        clear hit2 hb2
        go_wp2
        go_roundg (s.size - (i + k))
        case measure => omega
        case rel => exact ⟨i + k, by omega, Hit2.out, Hnext.out⟩
    · have hnx := fun ty => run_next_end_at (P := Tryd.prog) _ w.heap.size s i ty hit.1 hi
      have hres := Lib.indexAny_none (s := s.data.toList) (chars := [42, 63, 91]) (by rw [size_list, show s.size = i by omega]; exact HN.out)
      have Hres := hide hres
      clear hres hit
      go_wp2
      go_ret
      exact ⟨ret_int Hres.out.symm, Hit.out.2⟩

set_option maxRecDepth 1000000 in
theorem ia38 (s : ByteArray) (w : World) (hs : s.size ≤ 100000) :
    Calls Tryd.prog 38 #[.string s, .string ⟨#[42, 63, 91]⟩] w fun e w' => e = .returned (.int .i64 (Lib.indexAny s.data.toList [42, 63, 91])) ∧ Below w.heap.size w w' := by
  by_cases h8 : s.size ≤ 8
  · exact ia38_short s ⟨#[42, 63, 91]⟩ rfl w h8
  · have hv : ∀ w, (zeroValue 56).run Tryd.prog w = .ok (.agg (Array.replicate 256 (.bool false))) w := Tryd.zeroValue56
    refine (Tryd.strings_IndexAny_long hv s ⟨#[42, 63, 91]⟩ w (by decide) (by omega) (by omega) (by decide) (ascii_all (by decide))).mono fun e w' ⟨h1, h2⟩ => ⟨h1, ?_⟩
    rw [h2]
    exact ((Below.refl _ _).alloc (Nat.le_refl _) _).alloc (by simp) _

def pfxB (s : ByteArray) : ByteArray := ⟨(pfx s.data.toList).toArray⟩
set_option maxHeartbeats 800000 in
theorem prefix24 (s : ByteArray) (w : World) (hs : s.size ≤ 100000) : Calls Tryd.prog 24 #[.string s] w fun e w' => e = .returned (.string (pfxB s)) ∧ Below w.heap.size w w' := by
  have hc := fun w => ia38 s w hs
  rcases pfx_index s.data.toList with ⟨h1, h2⟩ | ⟨i, h1, h2, h3⟩
  · have he : s = pfxB s := ba_ext (by unfold pfxB; rw [h2])
    have He := hide he
    rw [h1] at hc
    clear h1 h2 he
    go_enter Tryd.func24, Tryd.ntmps24
    go_wp2_with (go_at_call 38; refine (hc _).mono ?_; rintro e w1 ⟨rfl, hb1⟩)
    go_ret
    exact ⟨ret_str He.out, hb1⟩
  · have he : s.extract 0 i = pfxB s := ba_ext (by unfold pfxB; rw [toList_extract0, h3])
    have He := hide he
    rw [h1] at hc
    rw [size_list] at h2
    clear h1 h3 he
    go_enter Tryd.func24, Tryd.ntmps24
    go_wp2_with (go_at_call 38; refine (hc _).mono ?_; rintro e w1 ⟨rfl, hb1⟩)
    go_ret
    exact ⟨ret_str He.out, hb1⟩

end Go.Proofs.YtlabdaomgogflaaDoor
