/- Walks of ValidPath of the program and of the reference. -/
import Derived.Test.YtlabdaomgogflaaDoorW2
namespace Go.Proofs.YtlabdaomgogflaaDoor
open Go.RowKit

theorem valid_big (s : ByteArray) (h : 60 < s.size) : false = validP s.data.toList := by
  unfold validP
  rw [decide_eq_false (by rw [size_list]; omega)]
  rfl
theorem valid_small (s : ByteArray) (h : s.size ≤ 60) : goP [] s.data.toList = validP s.data.toList := by
  unfold validP
  rw [decide_eq_true (by rw [size_list]; omega)]
  rfl
def pcs (s : ByteArray) : List ByteArray := Lib.splitB ⟨#[47]⟩ 0 (Lib.countB s ⟨#[47]⟩) s
theorem pcs_len (s : ByteArray) : (pcs s).length = Lib.countB s ⟨#[47]⟩ + 1 := Lib.splitB_all ⟨#[47]⟩ (by decide) 0 _ s rfl
theorem pcs_valid (s : ByteArray) : (pcs s).all (fun b => nameOk b.data.toList) = goP [] s.data.toList := by
  rw [← split_go (Lib.countB s ⟨#[47]⟩) s.data.toList rfl]
  have := Lib.splitB_data ⟨#[47]⟩ 0 (Lib.countB s ⟨#[47]⟩) s
  rw [show [(47 : UInt8)] = (⟨#[47]⟩ : ByteArray).data.toList from rfl, ← this, List.all_map]
  rfl
theorem pcs_size (s : ByteArray) : ∀ b ∈ pcs s, b.size ≤ s.size := by
  unfold pcs
  generalize Lib.countB s ⟨#[47]⟩ = k
  induction k generalizing s with
  | zero => intro b hb; simp [Lib.splitB] at hb; subst hb; exact Nat.le_refl _
  | succ k ih =>
    intro b hb
    unfold Lib.splitB at hb
    split at hb
    · simp at hb; subst hb; exact Nat.le_refl _
    · rcases List.mem_cons.1 hb with rfl | hb
      · simp; omega
      · have := ih _ b hb
        simp at this
        omega

theorem split29 (s : ByteArray) (m : Int) (w : World) (hs : s.size ≤ 100000) (hm : w.cell? ⟨0, 0, none⟩ = some (.int .i64 m)) (N : Nat) (hN : (pcs s).length = N) :
    Calls Tryd.prog 29 #[.string s, .string ⟨#[47]⟩] w fun e w' => e = .returned (.slice (some ⟨w.heap.size, 0, none⟩) N N) ∧ w' = w.alloc (.cells ((pcs s).map Value.string).toArray 9) := by
  subst hN
  rw [pcs_len]
  exact Tryd.strings_Split s ⟨#[47]⟩ m w (by omega) hm (by decide)

theorem all_take {α : Type} (l : List α) (k : Nat) (h : k < l.length) (p : α → Bool) : (l.take (k + 1)).all p = ((l.take k).all p && p l[k]) := by
  rw [List.take_succ_eq_append_getElem h, List.all_append]; simp

set_option maxHeartbeats 400000 in
theorem valid12 (s : ByteArray) (m : Int) (w : World) (hs : s.size ≤ 100000) (hm : w.cell? ⟨0, 0, none⟩ = some (.int .i64 m)) : Calls Tryd.prog 12 #[.string s] w fun e w' => e = .returned (.bool (validP s.data.toList)) ∧ Below w.heap.size w w' := by
  by_cases hb : 60 < s.size
  · go_enter Tryd.func12, Tryd.ntmps12
    go_wp2
    go_ret
    exact ⟨ret_bool (valid_big s hb), Below.refl _ _⟩
  · obtain ⟨N, hN⟩ : ∃ N, (pcs s).length = N := ⟨_, rfl⟩
    have hNle : N ≤ 1000 := by
      have h1 := pcs_len s
      have h2 := Lib.countB_le ⟨#[47]⟩ (by decide) s.size s (Nat.le_refl _)
      omega
    have hv := valid_small s (by omega)
    rw [← pcs_valid] at hv
    have hz := pcs_size s
    have Hv := hide hv
    have Hz := hide hz
    have HN := hide hN
    clear hv hz hN
    go_enter Tryd.func12, Tryd.ntmps12
    go_wp2_with (go_at_call 29; refine (split29 s m _ hs hm N HN.out).mono ?_; rintro e w' ⟨rfl, rfl⟩)
    have hbel : Below w.heap.size w (w.alloc (.cells ((pcs s).map Value.string).toArray 9)) := bnew (Below.refl _ _) _
    have hcell : ∀ k x, (pcs s)[k]? = some x → (w.alloc (.cells ((pcs s).map Value.string).toArray 9)).cell? ⟨w.heap.size, k, none⟩ = some (.string x) := fun k x hx => by
      rw [World.cell?_alloc_mark]
      simp [hx]
    generalize w.alloc (.cells ((pcs s).map Value.string).toArray 9) = w1 at hbel hcell
    go_loop [11] (fun i => ∃ k : Nat, k ≤ N ∧ i = .int .i64 k ∧ ((pcs s).take k).all (fun b => nameOk b.data.toList) = true) (fun i => N - (intOf i).toNat)
    case atStart => exact ⟨0, Nat.zero_le _, rfl, rfl⟩
    case round =>
      obtain ⟨k, hk, rfl, hall⟩ := hrel
      have Hall := hide hall
      clear hall
      by_cases hlt : k < N
      · have hkl : k < (pcs s).length := by rw [HN.out]; exact hlt
        obtain ⟨x, hx⟩ : ∃ x, (pcs s)[k] = x := ⟨_, rfl⟩
        have hxl : (pcs s)[k]? = some x := by rw [List.getElem?_eq_getElem hkl, hx]
        have hc := hcell k x hxl
        have hxs : x.size ≤ 100000 := by have := Hz.out x (by rw [← hx]; exact List.getElem_mem _); omega
        have hstep := all_take (pcs s) k hkl (fun b => nameOk b.data.toList)
        rw [hx, Hall.out, Bool.true_and] at hstep
        cases hok : nameOk x.data.toList
        · have hno : false = validP s.data.toList := by
            rw [← Hv.out]
            symm
            rw [List.all_eq_false]
            exact ⟨x, by rw [← hx]; exact List.getElem_mem _, by simp [hok]⟩
          have Hno := hide hno
          clear hno hcell hxl hx hstep
          go_wp2_with (go_at_call 30; refine (name30 _ _ hxs).mono ?_; rintro e w' ⟨rfl, rfl⟩)
          go_ret
          exact ⟨ret_bool Hno.out, hbel⟩
        · rw [hok] at hstep
          have Hstep := hide hstep
          clear hcell hxl hx hstep
          go_wp2_with (go_at_call 30; refine (name30 _ _ hxs).mono ?_; rintro e w' ⟨rfl, rfl⟩)
          go_round
          case rel => exact ⟨k + 1, by omega, by go_num, Hstep.out⟩
          case measure => simp [intOf]; omega
      · have hyes : true = validP s.data.toList := by
          have h1 := Hall.out
          rw [List.take_of_length_le (by have := HN.out; omega), Hv.out] at h1
          exact h1.symm
        have Hyes := hide hyes
        clear hyes hcell
        go_wp2
        go_ret
        exact ⟨ret_bool Hyes.out, hbel⟩

theorem seg_take (s : ByteArray) (b k : Nat) : (s.extract b k).data.toList = (s.data.toList.drop b).take (k - b) := Lib.extract_data s b k
theorem seg_snoc (s : ByteArray) (b k : Nat) (hb : b ≤ k) (h : k < s.size) : (s.data.toList.drop b).take (k + 1 - b) = (s.data.toList.drop b).take (k - b) ++ [s[k]] := by
  have h1 : k - b < (s.data.toList.drop b).length := by rw [List.length_drop, size_list]; omega
  rw [show k + 1 - b = k - b + 1 by omega, List.take_succ_eq_append_getElem h1, List.getElem_drop]
  congr 2
  simp only [show b + (k - b) = k by omega]
  rfl
theorem drop_at (s : ByteArray) (k : Nat) (h : k < s.size) : s.data.toList.drop k = s[k] :: s.data.toList.drop (k + 1) := by
  rw [List.drop_eq_getElem_cons (by rw [size_list]; exact h)]
  rfl

def VInv (s : ByteArray) (b k : Nat) : Prop := b ≤ k ∧ (k ≤ s.size → goP [] s.data.toList = goP ((s.data.toList.drop b).take (k - b)) (s.data.toList.drop k)) ∧ (s.size < k → goP [] s.data.toList = true)
theorem VInv.zero (s : ByteArray) : VInv s 0 0 := ⟨Nat.le_refl _, fun _ => by simp, fun h => by omega⟩
theorem VInv.pass {s : ByteArray} {b k : Nat} (h : VInv s b k) (hk : k < s.size) (hx : s[k] ≠ 47) : VInv s b (k + 1) := by
  obtain ⟨h1, h2, h3⟩ := h
  refine ⟨by omega, fun _ => ?_, fun h => by omega⟩
  rw [h2 (by omega), drop_at s k hk, goP, if_neg hx, seg_snoc s b k h1 hk]
theorem VInv.hit {s : ByteArray} {b k : Nat} (h : VInv s b k) (hk : k < s.size) (hx : s[k] = 47) (hn : nameOk (s.extract b k).data.toList = true) : VInv s (k + 1) (k + 1) := by
  obtain ⟨h1, h2, h3⟩ := h
  refine ⟨Nat.le_refl _, fun _ => ?_, fun h => by omega⟩
  rw [seg_take] at hn
  rw [h2 (by omega), drop_at s k hk, goP, if_pos hx, hn]
  simp
theorem VInv.fail {s : ByteArray} {b k : Nat} (h : VInv s b k) (hk : k < s.size) (hx : s[k] = 47) (hn : nameOk (s.extract b k).data.toList = false) : goP [] s.data.toList = false := by
  obtain ⟨h1, h2, h3⟩ := h
  rw [seg_take] at hn
  rw [h2 (by omega), drop_at s k hk, goP, if_pos hx, hn]
  simp
theorem VInv.last {s : ByteArray} {b k : Nat} (h : VInv s b k) (hk : k = s.size) : goP [] s.data.toList = nameOk (s.extract b k).data.toList := by
  obtain ⟨h1, h2, h3⟩ := h
  have e : s.data.toList.drop k = [] := List.drop_of_length_le (by rw [size_list]; omega)
  rw [h2 (by omega), seg_take, e, goP]

theorem name31' (s : ByteArray) (b : Bool) (hb : nameOk s.data.toList = b) (w : World) (hs : s.size ≤ 100000) : Calls Tryd.prog 31 #[.string s] w fun e w' => e = .returned (.bool b) ∧ w = w' := by
  subst hb; exact name31 s w hs
theorem name30' (s : ByteArray) (b : Bool) (hb : nameOk s.data.toList = b) (w : World) (hs : s.size ≤ 100000) : Calls Tryd.prog 30 #[.string s] w fun e w' => e = .returned (.bool b) ∧ w = w' := by
  subst hb; exact name30 s w hs

set_option maxHeartbeats 800000 in
theorem valid13 (s : ByteArray) (w : World) (hs : s.size ≤ 100000) : Calls Tryd.prog 13 #[.string s] w fun e w' => e = .returned (.bool (validP s.data.toList)) ∧ w = w' := by
  by_cases hb : 60 < s.size
  · go_enter Tryd.func13, Tryd.ntmps13
    go_wp2
    go_ret
    exact ⟨ret_bool (valid_big s hb), rfl⟩
  · have hv := valid_small s (by omega)
    have Hv := hide hv
    clear hv
    go_enter Tryd.func13, Tryd.ntmps13
    go_wp2
    go_loop [3, 4] (fun b i => ∃ (a k : Nat), k ≤ s.size + 1 ∧ a ≤ k ∧ b = .int .i64 a ∧ i = .int .i64 k ∧ VInv s a k) (fun _ i => s.size + 1 - (intOf i).toNat)
    case atStart => exact ⟨0, 0, Nat.zero_le _, Nat.le_refl _, rfl, rfl, VInv.zero s⟩
    case round =>
      obtain ⟨a, k, hk, hak, rfl, rfl, hinv⟩ := hrel
      have Hinv := hide hinv
      clear hinv
      have hsz : (s.extract a k).size ≤ 100000 := by simp; omega
      by_cases hlt : k < s.size
      · have hbb : s[k].toNat < 256 := UInt8.toNat_lt _
        by_cases hx : s[k] = 47
        · have hb1 : ((s[k].toNat : Int) == 47) = true := by rw [hx]; rfl
          have hke : ((k : Int) == (s.size : Int)) = false := beq_eq_false_iff_ne.2 (by omega)
          cases hok : nameOk (s.extract a k).data.toList
          all_goals have Hok := hide hok
          · have hf := (Hinv.out.fail hlt hx hok).symm.trans Hv.out
            have Hf := hide hf
            clear hf hx hok
            go_wp2_with (go_at_call 31; refine (name31' _ _ Hok.out _ hsz).mono ?_; rintro e w' ⟨rfl, rfl⟩)
            go_ret
            exact ⟨ret_bool Hf.out, rfl⟩
          · have hf := Hinv.out.hit hlt hx hok
            have Hf := hide hf
            clear hf hx hok
            go_wp2_with (go_at_call 31; refine (name31' _ _ Hok.out _ hsz).mono ?_; rintro e w' ⟨rfl, rfl⟩)
            go_round
            case rel => exact ⟨k + 1, k + 1, by omega, Nat.le_refl _, by go_num, by go_num, Hf.out⟩
            case measure => simp [intOf]; omega
        · have hb1 : ((s[k].toNat : Int) == 47) = false := by
            rw [beq_eq_false_iff_ne]
            intro h
            exact hx (UInt8.toNat_inj.1 (by show _ = 47; omega))
          have hke : ((k : Int) == (s.size : Int)) = false := beq_eq_false_iff_ne.2 (by omega)
          have hf := Hinv.out.pass hlt hx
          have Hf := hide hf
          clear hf hx
          go_wp2
          go_round
          case rel => exact ⟨a, k + 1, by omega, by omega, rfl, by go_num, Hf.out⟩
          case measure => simp [intOf]; omega
      · by_cases hke0 : k = s.size
        · subst hke0
          have hl := Hinv.out.last rfl
          cases hok : nameOk (s.extract a s.size).data.toList
          all_goals have Hok := hide hok
          · rw [hok] at hl
            have hf := hl.symm.trans Hv.out
            have Hf := hide hf
            clear hf hl hok
            go_wp2_with (go_at_call 31; refine (name31' _ _ Hok.out _ hsz).mono ?_; rintro e w' ⟨rfl, rfl⟩)
            go_ret
            exact ⟨ret_bool Hf.out, rfl⟩
          · rw [hok] at hl
            have Hl := hide hl
            clear hl hok
            go_wp2_with (go_at_call 31; refine (name31' _ _ Hok.out _ hsz).mono ?_; rintro e w' ⟨rfl, rfl⟩)
            go_round
            case rel => exact ⟨s.size + 1, s.size + 1, by omega, Nat.le_refl _, by go_num, by go_num, Nat.le_refl _, fun h => by omega, fun _ => Hl.out⟩
            case measure => simp [intOf] <;> omega
        · have hgt : s.size < k := by omega
          have hf := (Hinv.out.2.2 hgt).symm.trans Hv.out
          have Hf := hide hf
          clear hf hke0
          go_wp2
          go_ret
          exact ⟨ret_bool Hf.out, rfl⟩

end Go.Proofs.YtlabdaomgogflaaDoor
