/- The candidates by lists that are narrowed, over plain lists; no program. -/
import Derived.Test.YtdneoeiggebijaaLoc
namespace Go.Proofs.Ytdneoeiggebijaa

/-- Those that are not negative, in increasing order, each once. -/
def setP (l : List Int) : List Int := (l.filter fun z => decide (0 ≤ z)).foldl putS []
theorem up_setP (l : List Int) : Up (setP l) := up_fold _ _ up_nil
theorem mem_setP (l : List Int) (z : Int) : z ∈ setP l ↔ z ∈ l ∧ 0 ≤ z := by
  unfold setP
  rw [mem_fold]
  simp
theorem setP_len (l : List Int) : (setP l).length ≤ l.length := by
  have h1 := foldp_len (l.filter fun z => decide (0 ≤ z)) []
  have h2 := List.length_filter_le (fun z => decide (0 ≤ z)) l
  unfold setP
  simp at h1 ⊢
  omega
/-- Those that one of the offsets follows at a distance. -/
def folP (l o : List Int) (d : Int) : List Int := l.filter fun z => decide (z + d ∈ o)
theorem mem_folP (l o : List Int) (d z : Int) : z ∈ folP l o d ↔ z ∈ l ∧ z + d ∈ o := by
  unfold folP
  simp
theorem up_folP (l o : List Int) (d : Int) (h : Up l) : Up (folP l o d) := List.Pairwise.filter _ h
theorem folP_len (l o : List Int) (d : Int) : (folP l o d).length ≤ l.length := List.length_filter_le _ _
def gramP (o : List Int) (ds l : List Int) : List Int := ds.foldl (fun l d => folP l o d) l
theorem gramP_snoc (o ds l : List Int) (d : Int) : gramP o (ds ++ [d]) l = folP (gramP o ds l) o d := by unfold gramP; rw [List.foldl_append]; rfl
theorem mem_gramP (o : List Int) (z : Int) : ∀ (ds l : List Int), z ∈ gramP o ds l ↔ z ∈ l ∧ ∀ d ∈ ds, z + d ∈ o
  | [], l => by simp [gramP]
  | d :: ds, l => by
    have ih := mem_gramP o z ds (folP l o d)
    show z ∈ gramP o ds (folP l o d) ↔ _
    rw [ih, mem_folP]
    simp only [List.mem_cons, forall_eq_or_imp]
    exact ⟨fun ⟨⟨h1, h2⟩, h3⟩ => ⟨h1, h2, h3⟩, fun ⟨h1, h2, h3⟩ => ⟨⟨h1, h2⟩, h3⟩⟩
theorem up_gramP (o : List Int) : ∀ (ds l : List Int), Up l → Up (gramP o ds l)
  | [], _, h => h
  | d :: ds, l, h => up_gramP o ds (folP l o d) (up_folP l o d h)
theorem gramP_len (o : List Int) : ∀ (ds l : List Int), (gramP o ds l).length ≤ l.length
  | [], _ => Nat.le_refl _
  | d :: ds, l => Nat.le_trans (gramP_len o ds (folP l o d)) (folP_len l o d)
theorem sub_gramP (o : List Int) (z : Int) (ds l : List Int) (h : z ∈ gramP o ds l) : z ∈ l := ((mem_gramP o z ds l).1 h).1
def progP (gs : List (Int × List Int)) (l : List Int) (G : List (Int × List Int)) : List Int := G.foldl (fun l g => gramP (setP (atS gs g.1)) g.2 l) l
theorem progP_snoc (gs : List (Int × List Int)) (l : List Int) (G : List (Int × List Int)) (g : Int × List Int) : progP gs l (G ++ [g]) = gramP (setP (atS gs g.1)) g.2 (progP gs l G) := by unfold progP; rw [List.foldl_append]; rfl
theorem mem_progP (gs : List (Int × List Int)) (z : Int) : ∀ (G : List (Int × List Int)) (l : List Int), z ∈ progP gs l G ↔ z ∈ l ∧ ∀ g ∈ G, ∀ d ∈ g.2, z + d ∈ setP (atS gs g.1)
  | [], l => by simp [progP]
  | g :: G, l => by
    have ih := mem_progP gs z G (gramP (setP (atS gs g.1)) g.2 l)
    show z ∈ progP gs (gramP (setP (atS gs g.1)) g.2 l) G ↔ _
    rw [ih, mem_gramP]
    simp only [List.mem_cons, forall_eq_or_imp]
    exact ⟨fun ⟨⟨h1, h2⟩, h3⟩ => ⟨h1, h2, h3⟩, fun ⟨h1, h2, h3⟩ => ⟨⟨h1, h2⟩, h3⟩⟩
theorem up_progP (gs : List (Int × List Int)) : ∀ (G : List (Int × List Int)) (l : List Int), Up l → Up (progP gs l G)
  | [], _, h => h
  | g :: G, l, h => up_progP gs G _ (up_gramP _ g.2 l h)
theorem progP_len (gs : List (Int × List Int)) : ∀ (G : List (Int × List Int)) (l : List Int), (progP gs l G).length ≤ l.length
  | [], _ => Nat.le_refl _
  | g :: G, l => Nat.le_trans (progP_len gs G _) (gramP_len _ g.2 l)
theorem sub_progP (gs : List (Int × List Int)) (z : Int) (G : List (Int × List Int)) (l : List Int) (h : z ∈ progP gs l G) : z ∈ l := ((mem_progP gs z G l).1 h).1
theorem prog_cand (gs : List (Int × List Int)) (e : List UInt8) (h : 3 ≤ e.length) : progP gs (setP (atS gs (tri e 0))) (gramsS e) = candS gs e := by
  refine up_ext _ _ (up_progP _ _ _ (up_setP _)) (up_cand _ _) fun z => ?_
  rw [mem_progP, mem_cand gs e h, mem_setP]
  constructor
  · rintro ⟨⟨_, h0⟩, h2⟩
    refine ⟨h0, fun i hi => ?_⟩
    have hc : (tri e i, offs e (tri e i)) ∈ gramsS e := List.mem_map.2 ⟨tri e i, (mem_of e _).2 ⟨i, hi, rfl⟩, rfl⟩
    exact ((mem_setP _ _).1 (h2 _ hc (i : Int) ((mem_offsN e _ _ _).2 ⟨i, by omega, rfl, rfl⟩))).1
  · rintro ⟨h0, h2⟩
    have h3 := h2 0 (by omega)
    refine ⟨⟨by simpa using h3, h0⟩, fun g hg d hd => ?_⟩
    obtain ⟨c, _, rfl⟩ := List.mem_map.1 hg
    obtain ⟨i, hi, rfl, rfl⟩ := (mem_offsN e _ _ _).1 hd
    exact (mem_setP _ _).2 ⟨h2 i (by omega), by omega⟩

/-! ### The offsets are passed once: what is left has all that later candidates need -/
/-- From ob on nothing is missing for candidates from z on. -/
def Rest (o ob : List Int) (d z : Int) : Prop := Up ob ∧ (∀ x ∈ ob, x ∈ o) ∧ ∀ x ∈ o, z ≤ x - d → x ∈ ob
theorem Rest.start {o : List Int} {d z : Int} (h : Up o) : Rest o o d z := ⟨h, fun _ hx => hx, fun _ hx _ => hx⟩
theorem Rest.more {o ob : List Int} {d z z' : Int} (h : Rest o ob d z) (hz : z ≤ z') : Rest o ob d z' := ⟨h.1, h.2.1, fun x hx hl => h.2.2 x hx (by omega)⟩
theorem Rest.skip {o ob : List Int} {x d z : Int} (h : Rest o (x :: ob) d z) (hx : x - d < z) : Rest o ob d z := by
  refine ⟨(up_cons.1 h.1).2, fun y hy => h.2.1 y (by simp [hy]), fun y hy hl => ?_⟩
  rcases List.mem_cons.1 (h.2.2 y hy hl) with rfl | h'
  · omega
  · exact h'
theorem Rest.none {o : List Int} {d z : Int} (h : Rest o [] d z) : decide (z + d ∈ o) = false := by
  refine decide_eq_false fun hm => ?_
  have := h.2.2 _ hm (by omega)
  simp at this
theorem Rest.head {o ob : List Int} {x d z : Int} (h : Rest o (x :: ob) d z) (hx : z ≤ x - d) : decide (z + d ∈ o) = decide (x - d = z) := by
  by_cases e : x - d = z
  · rw [decide_eq_true e]
    refine decide_eq_true ?_
    rw [← e]
    have := h.2.1 x (by simp)
    rwa [show x - d + d = x by omega]
  · rw [decide_eq_false e]
    refine decide_eq_false fun hm => ?_
    rcases List.mem_cons.1 (h.2.2 _ hm (by omega)) with e' | e'
    · omega
    · have := (up_cons.1 h.1).1 _ e'
      omega
theorem folP_yes (l o : List Int) (d z : Int) (h : decide (z + d ∈ o) = true) : folP (l ++ [z]) o d = folP l o d ++ [z] := by
  unfold folP
  rw [List.filter_append]
  simp only [List.filter_cons, h]
  rfl
theorem folP_no (l o : List Int) (d z : Int) (h : decide (z + d ∈ o) = false) : folP (l ++ [z]) o d = folP l o d := by
  unfold folP
  rw [List.filter_append]
  simp only [List.filter_cons, h]
  simp

/-! ### Possible: what is missing -/
/-- Those of the codes that are not among the first n. -/
def missS (l cs : List Int) : List Int := l.filter fun c => decide (c ∉ cs)
theorem miss_nil (cs : List Int) (e : List UInt8) : possS cs e = true ↔ missS (ofS e) cs = [] := by
  unfold possS missS
  rw [List.all_eq_true, List.filter_eq_nil_iff]
  simp
end Go.Proofs.Ytdneoeiggebijaa
