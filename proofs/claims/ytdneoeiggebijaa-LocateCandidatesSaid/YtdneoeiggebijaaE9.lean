/- Grams with where they lie: in new memory alone. -/
import Derived.Test.YtdneoeiggebijaaU5
import Derived.Test.YtdneoeiggebijaaE8
namespace Go.Proofs.Ytdneoeiggebijaa
open Go.RowKit Go.Maps
open Go.ChangeShapes (block_add)

/-- The slice at A of n grams is gs, and lies with all its offsets from block X on. -/
def GrX (W : World) (X : Nat) (A : Option Addr) (n c : Nat) (gs : List (Int × List Int)) : Prop :=
  n ≤ c ∧ c ≤ 9223372036854775807 ∧ gs.length = n ∧ ∀ i x, gs[i]? = some x → ∃ g o, A = some ⟨g, o, none⟩ ∧ X ≤ g ∧ g < W.heap.size ∧ ∃ A' n' c', W.cell? ⟨g, o + i * 2, none⟩ = some (.int .i64 x.1) ∧ W.cell? ⟨g, o + i * 2 + 1, none⟩ = some (.slice A' n' c') ∧ Sl W A' n' c' (numCells x.2) ∧ ∀ ad, A' = some ad → X ≤ ad.block
/-- Grams in new memory. -/
def GotX (w : World) (gs : List (Int × List Int)) (e : Ending) (w' : World) : Prop := ∃ A n c, e = .returned (.slice A n c) ∧ GrX w' w.heap.size A n c gs ∧ Below w.heap.size w w'

/-- v is a row of the call's own of the grams gs. -/
def OwnX (W : World) (B X : Nat) (e : TypeId) (v : Value) (gs : List (Int × List Int)) : Prop :=
  ∃ cs : List Value, W.ownsRow B e 2 v gs.length cs ∧ ∀ i x, gs[i]? = some x → ∃ A n c, cs[i * 2]? = some (.int .i64 x.1) ∧ cs[i * 2 + 1]? = some (.slice A n c) ∧ Lies W v A n c (numCells x.2) ∧ ∀ ad, A = some ad → X ≤ ad.block
theorem OwnX.nil (W : World) (B X : Nat) (e : TypeId) : OwnX W B X e (.slice none 0 0) [] := ⟨[], World.ownsRow_nil _ _ _ _, fun i x h => by simp at h⟩
theorem OwnX.below {W W' : World} {B X : Nat} {e : TypeId} {v : Value} {gs : List (Int × List Int)} (h : OwnX W B X e v gs) (hb : Below W.heap.size W W') : OwnX W' B X e v gs := by
  obtain ⟨cs, h1, h2⟩ := h
  refine ⟨cs, owns_below' h1 hb, fun i x hx => ?_⟩
  obtain ⟨A, n, c, e0, e1, hl, hX⟩ := h2 i x hx
  exact ⟨A, n, c, e0, e1, hl.below hb, hX⟩
theorem OwnX.s {W : World} {B X : Nat} {e : TypeId} {v : Value} {gs : List (Int × List Int)} (h : OwnX W B X e v gs) (hBX : X ≤ B) : ∃ A n c, v = .slice A n c ∧ GrX W X A n c gs := by
  obtain ⟨cs, h1, h2⟩ := h
  have h1' := h1
  rcases h1'.2 with ⟨rfl, h0⟩ | ⟨g, cap, cur, rfl, hb, hg, hc, hm, r⟩
  · obtain rfl : gs = [] := List.eq_nil_of_length_eq_zero h0
    exact ⟨none, 0, 0, rfl, Nat.le_refl _, by omega, rfl, fun i x hx => by simp at hx⟩
  · refine ⟨_, gs.length, cap, rfl, hc, by unfold maxLen at hm; omega, rfl, fun i x hx => ?_⟩
    have hi := (List.getElem?_eq_some_iff.1 hx).1
    obtain ⟨A, n, c, e0, e1, hl, hX⟩ := h2 i x hx
    refine ⟨g, 0, rfl, by omega, lt_of_block hg, A, n, c, ?_, ?_, hl.1, hX⟩
    · rw [Nat.zero_add, h1.cellAt (i * 2) (by omega)]; exact e0
    · rw [Nat.zero_add, h1.cellAt (i * 2 + 1) (by omega)]; exact e1

section
variable {P : Program} {ops : Array Oper} {rest : List Oper} {o : Oper} {a : Act} {Q : Exit → Act → World → Prop}
/-- l = append(l, g), l a row of the call's own -/
theorem wp_push_gramX (hgd : o.guard = none) (s x : Operand) (t : TypeId) (ho : o.op = .call { callee := .builtin .append, args := #[s, x], argTypes := #[t, t] })
    (e : TypeId) (i : TypeInfo) (z : Value) (bytes : Nat) (ht : P.underlying t = some (.slice e)) (hi : P.info? e = some i) (hz : i.zero = some z) (hsize : i.size = 2) (hby : i.bytes = bytes) (hzs : z.cells.size = 2)
    (B X : Nat) (v : Value) (gs : List (Int × List Int)) (hs : a.eval s = v) (w0 : World) (zc : Int) (A : Option Addr) (n c : Nat) (l : List Int) (hown : OwnX w0 B X e v gs) (hB : B ≤ w0.heap.size) (H : Nat) (hH : H = w0.heap.size)
    (hx : a.eval x = .slice (some ⟨H, 0, none⟩) 1 1) (hsl : Lies w0 v A n c (numCells l)) (hXa : ∀ ad, A = some ad → X ≤ ad.block) (hlen : (gs.length + 1) * bytes ≤ 140737488355328) (h63 : gs.length + 1 ≤ maxLen) (T : TypeId)
    (h : ∀ v' w', OwnX w' B X e v' (gs ++ [(zc, l)]) → Below B w0 w' → wpList P ops Q rest (a.put o.dst v') w') : wpList P ops Q (o :: rest) a (w0.alloc (.cells #[.int .i64 zc, .slice A n c] T)) := by
  subst hH
  obtain ⟨cs, hown, hl⟩ := hown
  have hone : ∀ u ∈ [Value.int .i64 zc, .slice A n c], u.oneCell' = true := by
    intro u hu
    simp at hu
    rcases hu with rfl | rfl <;> rfl
  refine wpList_append_own_at _ hgd s x t ho B e i z 2 bytes ht hi hz hsize hby hzs (by decide) v gs.length cs hs (hown.alloc _) ⟨w0.heap.size, 0, none⟩ 1 1 [.int .i64 zc, .slice A n c] hx rfl (c1_two _ _ _ _) hone h63 hlen (by simp; omega) ?_
  intro v' w' hown' hg _ hat
  have hF : Far w0 w' v v' := by
    refine ⟨by have := hg.size; simp at this; omega, fun g hlt hne => ⟨?_, ?_⟩⟩
    · exact (hg.block g (by simp; omega) (fun e => hne e.symm)).trans (((Below.refl w0.heap.size w0).alloc (Nat.le_refl _) _).block g hlt)
    · rcases hat with hat | hat
      · rw [hat]; exact hne
      · rw [hat]; intro e; injection e with e; simp at e; omega
  refine h v' w' ⟨cs ++ [.int .i64 zc, .slice A n c], by rw [List.length_append]; exact hown', fun j x hx => ?_⟩ ?_
  · have hcl : cs.length = gs.length * 2 := hown.1
    by_cases hj : j < gs.length
    · rw [List.getElem?_append_left hj] at hx
      obtain ⟨A', n', c', e0, e1, hl', hX'⟩ := hl j x hx
      exact ⟨A', n', c', by rw [List.getElem?_append_left (by omega)]; exact e0, by rw [List.getElem?_append_left (by omega)]; exact e1, hl'.far hF, hX'⟩
    · rw [List.getElem?_append_right (by omega)] at hx
      have hj' : j = gs.length := by
        have := (List.getElem?_eq_some_iff.1 hx).1
        simp at this
        omega
      subst hj'
      rw [Nat.sub_self] at hx
      cases hx
      refine ⟨A, n, c, ?_, ?_, hsl.far hF, hXa⟩
      · rw [List.getElem?_append_right (by omega), show gs.length * 2 - cs.length = 0 by omega]; rfl
      · rw [List.getElem?_append_right (by omega), show gs.length * 2 + 1 - cs.length = 1 by omega]; rfl
  · exact ((Below.refl B w0).alloc hB _).grown hg (by simp; omega) fun k hk => (hown.lt k hk).1
end

theorem OwnX.lies_old {w : World} {B X : Nat} {e : TypeId} {v : Value} {gs : List (Int × List Int)} {A : Option Addr} {n c : Nat} {xs : List Value} (h : OwnX w B X e v gs) (hs : Sl w A n c xs) (hg : ∀ ad, A = some ad → ad.block < B) : Lies w v A n c xs := by
  obtain ⟨cs, h1, _⟩ := h
  exact ⟨hs, fun _ ad e' hv => by
    have := (h1.lt _ hv).1
    have := hg ad e'
    omega⟩
set_option maxRecDepth 20000 in
set_option maxHeartbeats 3200000 in
theorem gramsX22 (s : ByteArray) (w : World) (hs : s.size ≤ 4000) : Calls Try.prog 22 #[.string s] w (GotX w (gramsS s.data.toList)) := by
  obtain ⟨g0, gi, gz0, gz1, gz2⟩ := info_parts infoG
  have hoffs := offs38 s w (by omega)
  obtain ⟨d, hd⟩ : ∃ d, s.data.toList = d := ⟨_, rfl⟩
  have hdl : d.length = s.size := by rw [← hd, size_list]
  rw [hd] at hoffs ⊢
  obtain ⟨L, hL⟩ : ∃ L, ofS d = L := ⟨_, rfl⟩
  have hLl := of_len d
  have hup := up_of d
  have Hg := hide (show gramsS d = L.map fun c => (c, offs d c) by unfold gramsS; rw [hL])
  have hmem := mem_of d
  rw [hL] at hLl hup hmem
  have Hwf := hide (show ∀ z ∈ L, (Lit.int .i64 z).wf = true from fun z hz => by
    obtain ⟨i, _, e⟩ := (hmem z).1 hz
    have := tri_lt d i
    exact WalkArith.wf_i64 (by omega))
  have hLn : L.length ≤ 4000 := by omega
  have Hhas := hide (show ∀ D : DataW Unit, Groups D (offs d) → ∀ x, has D (.int .i64 x) = true ↔ x ∈ L from fun D h x => by rw [← hL]; exact GotM.has h x)
  clear hd hL hdl hLl hs hmem
  go_enter Try.func22, Try.ntmps22
  go_wp2_with fail
  refine hoffs.mono ?_
  rintro e w1 ⟨b, base, mm, D, rfl, hown, hgr, hmm, -, hbase, hb1⟩
  have O1 := hide hown
  have G1 := hide hgr
  have B1 := hide hb1
  have hblt := (groups_map hown).lt
  clear hown hgr hb1 hoffs
  go_wp2_with fail
  with_reducible refine (codes39 _ b mm D L _ (groups_map O1.out) hup (Hhas.out D G1.out) hmm).mono ?_
  rintro e w2 ⟨A, n, c, rfl, hsl, hb2⟩
  have Hlen := hide hsl.nlen
  have hn : n ≤ 4000 := by have := hsl.nlen; omega
  have hnc := hsl.1
  have hcc := hsl.2.1
  have hsz12 := hb2.size
  have H := hide hsl
  have O2 := hide (groups_below O1.out hb2)
  have Sh := hide (shuns_above O2.out)
  have B2 := hide (B1.out.trans (hb2.mono B1.out.size))
  clear hsl hb2 hLn hup O1 B1 Hhas
  go_wp2
  go_loopw [4, 12] (fun u x wr => ∃ k : Nat, k ≤ n ∧ x = .int .i64 k ∧ OwnX wr w2.heap.size w.heap.size 32 u ((L.take k).map fun c => (c, offs d c)) ∧ Below w2.heap.size w2 wr) (fun _ x _ => n - (intOf x).toNat)
  case atStart => exact ⟨0, Nat.zero_le _, rfl, OwnX.nil _ _ _ _, Below.refl _ _⟩
  case round =>
    obtain ⟨k, hk, rfl, hown, hb⟩ := hrel
    obtain ⟨wo, hwo⟩ : ∃ wo, wo = wr := ⟨wr, rfl⟩
    subst hwo
    have hsz := hb.size
    by_cases hlt : k < n
    · obtain ⟨ad, z, rfl, hz, hcell⟩ := num_cell (H.out.below hb).reads hlt
      have hst := gk_succ d L k z hz
      have hkl : ((L.take k).map fun c => (c, offs d c)).length ≤ 1000000 := by rw [List.length_map, List.length_take]; omega
      have Hwz := hide (Hwf.out z (List.mem_of_getElem? hz))
      have O3 := hide (groups_below O2.out hb)
      have Sh3 := hide (shuns_below Sh.out (by omega) hb)
      have Hb := hide hb
      obtain ⟨G, hG⟩ : ∃ G, ((L.take k).map fun c => (c, offs d c)) = G := ⟨_, rfl⟩
      rw [hG] at hst hkl hown
      have Hst := hide hst
      have Hown := hide hown
      clear hst hG hown hb hz
      go_wp2_with (first
        | (at_lookup; refine wpList_lookup_groups_shuns _ rfl _ _ 53 rfl 3 24 3 .i64 keyed3 Try.underlying53 (zero38 _) base b mm _ rfl O3.out (by unfold maxLen; omega) _ _ rfl (keyOf_int_mk Try.underlying3 Hwz.out) ?_; intro v zs hat hoi hzl _ hsh; have hzs := G1.out.is hoi hat; obtain ⟨A1, m1, c1, rfl, hs1, hlow⟩ := ownsInts_sl hoi; rw [hzs] at hs1; have HL := hide (Hown.out.lies_old hs1 fun ad e => by (subst e; have := hsh _ Sh3.out ad.block rfl; omega)); have HX := hide (show ∀ ad, A1 = some ad → w.heap.size ≤ ad.block from fun ad e => Nat.le_trans hbase (hlow ad e)); clear hzs hs1 hat hoi hsh hzl hlow)
        | (at_builtin; refine wp_push_gramX rfl (.tmp 16) (.tmp 22) 30 rfl 32 g0 (.agg #[.int .i64 0, .slice none 0 0]) 32 Try.underlying30 gi gz0 gz1 gz2 rfl w2.heap.size w.heap.size u4 G rfl _ z A1 m1 c1 (offs d z) Hown.out hsz _ rfl rfl HL.out HX.out (by omega) (by unfold maxLen; omega) _ ?_)
        | fail)
      intro v' w' hown' hb'
      rw [Hst.out] at hown'
      have Hn := hide hown'
      have Hb4 := hide (Hb.out.trans hb')
      clear hown' hb'
      go_wp2
      go_roundw
      case rel => exact ⟨k + 1, by omega, by go_num, Hn.out, Hb4.out⟩
      case measure => simp [intOf]; omega
    · rw [List.take_of_length_le (by rw [Hlen.out]; omega)] at hown
      have hown2 := hown.s B2.out.size
      rw [← Hg.out] at hown2
      obtain ⟨A', n', c', rfl, hg⟩ := hown2
      have Hgr := hide hg
      have Bl := hide (B2.out.trans (hb.mono B2.out.size))
      clear hown hb hg
      go_wp2
      go_ret
      exact ⟨_, _, _, rfl, Hgr.out, Bl.out⟩


/-- Gram k, behind whatever leaves the blocks from X on as they were. -/
theorem GrX.at_ {W W' : World} {X : Nat} {A : Option Addr} {n c : Nat} {gs : List (Int × List Int)} (h : GrX W X A n c gs) (ha : Ag X W.heap.size W W') {k : Nat} (hk : k < n) :
    ∃ g o z l A' n' c', A = some ⟨g, o, none⟩ ∧ gs[k]? = some (z, l) ∧ W'.cell? ⟨g, o + k * 2, none⟩ = some (.int .i64 z) ∧ W'.cell? ⟨g, o + k * 2 + 1, none⟩ = some (.slice A' n' c') ∧ Sl W' A' n' c' (numCells l) ∧ ∀ ad, A' = some ad → X ≤ ad.block := by
  have hkl : k < gs.length := by rw [h.2.2.1]; exact hk
  obtain ⟨g, o, hA, hX, hlt, A', n', c', h0, h1, hs, hX'⟩ := h.2.2.2 k _ (List.getElem?_eq_getElem hkl)
  have key : ∀ j : Nat, W'.cell? ⟨g, j, none⟩ = W.cell? ⟨g, j, none⟩ := fun j => ha.cell (p := ⟨g, j, none⟩) hX hlt
  refine ⟨g, o, gs[k].1, gs[k].2, A', n', c', hA, List.getElem?_eq_getElem hkl, (key _).trans h0, (key _).trans h1, ?_, hX'⟩
  obtain ⟨s1, s2, s3, s4⟩ := hs
  refine ⟨s1, s2, s3, s4.1, fun j u hu => ?_⟩
  obtain ⟨ad, e, hb, hc⟩ := s4.2 j u hu
  exact ⟨ad, e, Nat.lt_of_lt_of_le hb ha.1, (ha.cell (p := ad.add j) (by rw [block_add]; exact hX' ad e) (by rw [block_add]; exact hb)).trans hc⟩

end Go.Proofs.Ytdneoeiggebijaa
