/- Walks of layer 5's reference: Same, In, Put. -/
import Derived.Test.YtfljmnjcoagbmaaProg
import Derived.Test.YtfljmnjcoagbmaaMem
import Derived.Test.YtfljmnjcoagbmaaSets
namespace Go.Proofs.Ytfljmnjcoagbmaa
open Go.RowKit

theorem infoI : (Try.prog.info? 3).map (fun i => (i.zero, i.size, i.bytes)) = some (some (.int .i64 0), 1, 8) := by kernel_rfl

set_option maxRecDepth 20000 in
set_option maxHeartbeats 800000 in
theorem rsame13 (A A' : Option Addr) (n c n' c' : Nat) (xs : List Int) (w : World) (h : Sl w A n c (numCells xs)) (h' : Sl w A' n' c' (numCells xs)) :
    Calls Try.prog 13 #[.slice A n c, .slice A' n' c'] w fun e w' => e = .returned (.bool true) ∧ Drawn w w' := by
  have e : n' = n := by rw [← h.nlen, h'.nlen]
  subst e
  have hc := h.2.1
  have hnc := h.1
  have H := hide h
  have H' := hide h'
  clear h h'
  go_enter Try.func13, Try.ntmps13
  go_wp2
  go_loopw [5] (fun x wr => ∃ k : Nat, k ≤ n' ∧ x = .int .i64 k ∧ Drawn w wr) (fun x _ => n' - (intOf x).toNat)
  case atStart => exact ⟨0, Nat.zero_le _, rfl, Drawn.refl _⟩
  case round =>
    obtain ⟨k, hk, rfl, hd⟩ := hrel
    have Hd := hide hd
    have hbel := hd.below w.heap.size
    clear hd
    by_cases hlt : k < n'
    · obtain ⟨ad, z, rfl, hz, hcell⟩ := num_cell (H.out.below hbel).reads hlt
      obtain ⟨ad', z', rfl, hz', hcell'⟩ := num_cell (H'.out.below hbel).reads hlt
      rw [hz] at hz'
      cases hz'
      clear hz hbel
      go_wp2
      go_quiet (fail)
      go_wp2
      go_roundw
      case rel => exact ⟨k + 1, by omega, by go_num, Hd.out.more _⟩
      case measure => simp [intOf]; omega
    · clear hbel
      go_wp2
      go_ret
      exact ⟨rfl, Hd.out⟩

theorem notin_take (l : List Int) (k : Nat) (z m : Int) (h : m ∉ l.take k) (hz : l[k]? = some z) (hne : ¬ z = m) : m ∉ l.take (k + 1) := by
  have hk := (List.getElem?_eq_some_iff.1 hz).1
  rw [List.take_succ_eq_append_getElem hk, (List.getElem?_eq_some_iff.1 hz).2, List.mem_append]
  rintro (h1 | h1)
  · exact h h1
  · simp at h1; exact hne h1.symm

set_option maxRecDepth 20000 in
set_option maxHeartbeats 800000 in
theorem rin31 (B : Nat) (A : Option Addr) (n c : Nat) (l : List Int) (m : Int) (w : World) (h : Reads w B A n (numCells l)) (hn : n ≤ 9223372036854775807) :
    Calls Try.prog 31 #[.slice A n c, .int .i64 m] w fun e w' => e = .returned (.bool (decide (m ∈ l))) ∧ w = w' := by
  have hlen : l.length = n := by rw [← num_len]; exact h.1
  have Hlen := hide hlen
  have H := hide h
  clear hlen h
  go_enter Try.func31, Try.ntmps31
  go_wp2
  go_loop [5] (fun x => ∃ k : Nat, k ≤ n ∧ x = .int .i64 k ∧ m ∉ l.take k) (fun x => n - (intOf x).toNat)
  case atStart => exact ⟨0, Nat.zero_le _, rfl, by simp⟩
  case round =>
    obtain ⟨k, hk, rfl, hm⟩ := hrel
    have Hm := hide hm
    clear hm
    by_cases hlt : k < n
    · obtain ⟨ad, z, rfl, hz, hcell⟩ := num_cell H.out hlt
      by_cases he : z = m
      · subst he
        have hr : decide (z ∈ l) = true := decide_eq_true (List.mem_of_getElem? hz)
        have Hr := hide hr
        clear hr hz
        go_wp2
        go_ret
        exact ⟨ret_bool Hr.out.symm, rfl⟩
      · have hnx := notin_take l k z m Hm.out hz he
        have Hnx := hide hnx
        have hb : (z == m) = false := beq_eq_false_iff_ne.2 he
        clear hnx hz he
        go_wp2
        go_round
        case rel => exact ⟨k + 1, by omega, by go_num, Hnx.out⟩
        case measure => simp [intOf]; omega
    · have hm2 := Hm.out
      rw [List.take_of_length_le (by rw [Hlen.out]; omega)] at hm2
      have Hr := hide (decide_eq_false hm2)
      clear hm2
      go_wp2
      go_ret
      exact ⟨ret_bool Hr.out.symm, rfl⟩

/-! ### Put -/
theorem put_skip : ∀ (l : List Int) (k : Nat) (m : Int), (∀ y ∈ l.take k, y < m) → putS l m = l.take k ++ putS (l.drop k) m
  | l, 0, m, _ => by simp
  | [], k + 1, m, _ => by simp
  | x :: l, k + 1, m, h => by
    have hx : x < m := h x (by simp)
    have ih := put_skip l k m fun y hy => h y (by simp [hy])
    show putS (x :: l) m = x :: (l.take k ++ putS (l.drop k) m)
    rw [← ih]
    conv => lhs; unfold putS
    rw [if_neg (by omega), if_neg (by omega)]
theorem put_gt (x m : Int) (l : List Int) (h : m < x) : putS (x :: l) m = m :: x :: l := by
  conv => lhs; unfold putS
  rw [if_pos h]
theorem put_eq (m : Int) (l : List Int) : putS (m :: l) m = m :: l := by
  conv => lhs; unfold putS
  rw [if_neg (by omega), if_pos rfl]
theorem drop_cons (l : List Int) (k : Nat) (z : Int) (h : l[k]? = some z) : l.drop k = z :: l.drop (k + 1) := by
  have hk := (List.getElem?_eq_some_iff.1 h).1
  rw [List.drop_eq_getElem_cons hk, (List.getElem?_eq_some_iff.1 h).2]
/-- Where Put stands behind k elements. -/
def PutAt (l : List Int) (m : Int) (k : Nat) (d : Bool) (out : List Int) : Prop :=
  if d = true then out ++ l.drop k = putS l m else out = l.take k ∧ ∀ y ∈ l.take k, y < m
theorem putAt_start (l : List Int) (m : Int) : PutAt l m 0 false [] := by unfold PutAt; simp
theorem putAt_done (l : List Int) (m : Int) (k : Nat) (out : List Int) (z : Int) (hz : l[k]? = some z) (h : PutAt l m k true out) : PutAt l m (k + 1) true (out ++ [z]) := by
  unfold PutAt at h ⊢
  rw [if_pos rfl] at h ⊢
  rw [List.append_assoc, ← h, drop_cons l k z hz]
  rfl
theorem putAt_less (l : List Int) (m : Int) (k : Nat) (out : List Int) (z : Int) (hz : l[k]? = some z) (hlt : z < m) (h : PutAt l m k false out) : PutAt l m (k + 1) false (out ++ [z]) := by
  have hk := (List.getElem?_eq_some_iff.1 hz).1
  have e : l.take (k + 1) = l.take k ++ [z] := by rw [List.take_succ_eq_append_getElem hk, (List.getElem?_eq_some_iff.1 hz).2]
  unfold PutAt at h ⊢
  rw [if_neg (by simp)] at h ⊢
  refine ⟨by rw [e, h.1], fun y hy => ?_⟩
  rw [e] at hy
  rcases List.mem_append.1 hy with hy | hy
  · exact h.2 y hy
  · simp at hy; omega
theorem putAt_more (l : List Int) (m : Int) (k : Nat) (out : List Int) (z : Int) (hz : l[k]? = some z) (hgt : m < z) (h : PutAt l m k false out) : PutAt l m (k + 1) true (out ++ [m] ++ [z]) := by
  unfold PutAt at h ⊢
  rw [if_neg (by simp)] at h
  rw [if_pos rfl, put_skip l k m h.2, drop_cons l k z hz, put_gt z m _ hgt, h.1]
  simp
theorem putAt_same (l : List Int) (m : Int) (k : Nat) (out : List Int) (hz : l[k]? = some m) (h : PutAt l m k false out) : PutAt l m (k + 1) true (out ++ [m]) := by
  unfold PutAt at h ⊢
  rw [if_neg (by simp)] at h
  rw [if_pos rfl, put_skip l k m h.2, drop_cons l k m hz, put_eq, h.1]
  simp
theorem putAt_end (l : List Int) (m : Int) (d : Bool) (out : List Int) (h : PutAt l m l.length d out) : putS l m = if d = true then out else out ++ [m] := by
  unfold PutAt at h
  by_cases hd : d = true
  · rw [if_pos hd] at h ⊢
    rw [← h, List.drop_length, List.append_nil]
  · rw [if_neg hd] at h ⊢
    rw [put_skip l l.length m h.2, h.1, List.drop_length]
    rfl
theorem putAt_len (l : List Int) (m : Int) (k : Nat) (d : Bool) (out : List Int) (h : PutAt l m k d out) (hk : k ≤ l.length) : out.length ≤ l.length + 1 := by
  have hp : ∀ (l : List Int), (putS l m).length ≤ l.length + 1 := by
    intro l
    induction l with
    | nil => simp [putS]
    | cons x l ih => unfold putS; split; · simp
                     · split
                       · simp
                       · simp; omega
  unfold PutAt at h
  by_cases hd : d = true
  · rw [if_pos hd] at h
    have := congrArg List.length h
    rw [List.length_append] at this
    have := hp l
    omega
  · rw [if_neg hd] at h
    rw [h.1, List.length_take]
    omega

end Go.Proofs.Ytfljmnjcoagbmaa
