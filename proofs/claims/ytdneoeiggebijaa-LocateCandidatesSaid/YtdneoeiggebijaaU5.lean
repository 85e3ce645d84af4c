/- Walks of layer 6's program: Grams, At; all its contracts together. -/
import Derived.Test.YtdneoeiggebijaaU4
import Derived.Test.YtdneoeiggebijaaT3
import Derived.Maps.GroupsBeside
namespace Go.Proofs.Ytdneoeiggebijaa
open Go.RowKit Go.Maps

theorem OwnG.lies_old {w : World} {B : Nat} {e : TypeId} {v : Value} {gs : List (Int × List Int)} {A : Option Addr} {n c : Nat} {xs : List Value} (h : OwnG w B e v gs) (hs : Sl w A n c xs) (hg : ∀ ad, A = some ad → ad.block < B) : Lies w v A n c xs := by
  obtain ⟨cs, h1, _⟩ := h
  exact ⟨hs, fun _ ad e' hv => by
    have := (h1.lt _ hv).1
    have := hg ad e'
    omega⟩
section
variable {P : Program} {k : TypeId} {w w' : World} {base e b n : Nat} {q : IntKind} {D : DataW Unit}
theorem shuns_above (h : w.ownsGroups P k base e q b n D) : w.Shuns b fun g => w.heap.size ≤ g :=
  World.Shuns.reno (No := fun _ => False) (fun _ _ _ _ _ _ _ hN => hN) h fun _ hg => Or.inr hg
theorem shuns_below {No : Nat → Prop} (h : w.Shuns b No) (hlt : b < w.heap.size) (hb : Below w.heap.size w w') : w'.Shuns b No := fun es clock hb' => h es clock ((hb.block b hlt).symm.trans hb')
end

set_option maxRecDepth 20000 in
set_option maxHeartbeats 3200000 in
theorem grams22 (s : ByteArray) (w : World) (hs : s.size ≤ 4000) : Calls Try.prog 22 #[.string s] w (GotG w (gramsS s.data.toList)) := by
  obtain ⟨g0, gi, gz0, gz1, gz2⟩ := info_parts infoG
  have hoffs := offs38 s w (by omega)
  obtain ⟨d, hd⟩ : ∃ d, s.data.toList = d := ⟨_, rfl⟩
  have hdl : d.length = s.size := by rw [← hd, size_list]
  rw [hd] at hoffs ⊢
  obtain ⟨L, hL⟩ : ∃ L, ofS d = L := ⟨_, rfl⟩
  have hLl := of_len d
  have hup := up_of d
  have Hg := hide (show gramsS d = L.map fun c => (c, offs d c) by unfold gramsS; rw [hL])
  have hmem := mem_of d
  rw [hL] at hLl hup hmem
  have Hwf := hide (show ∀ z ∈ L, (Lit.int .i64 z).wf = true from fun z hz => by
    obtain ⟨i, _, e⟩ := (hmem z).1 hz
    have := tri_lt d i
    exact WalkArith.wf_i64 (by omega))
  have hLn : L.length ≤ 4000 := by omega
  have Hhas := hide (show ∀ D : DataW Unit, Groups D (offs d) → ∀ x, has D (.int .i64 x) = true ↔ x ∈ L from fun D h x => by rw [← hL]; exact GotM.has h x)
  clear hd hL hdl hLl hs hmem
  go_enter Try.func22, Try.ntmps22
  go_wp2_with fail
  refine hoffs.mono ?_
  rintro e w1 ⟨b, base, mm, D, rfl, hown, hgr, hmm, -, -, hb1⟩
  have O1 := hide hown
  have G1 := hide hgr
  have B1 := hide hb1
  have hblt := (groups_map hown).lt
  clear hown hgr hb1 hoffs
  go_wp2_with fail
  with_reducible refine (codes39 _ b mm D L _ (groups_map O1.out) hup (Hhas.out D G1.out) hmm).mono ?_
  rintro e w2 ⟨A, n, c, rfl, hsl, hb2⟩
  have Hlen := hide hsl.nlen
  have hn : n ≤ 4000 := by have := hsl.nlen; omega
  have hnc := hsl.1
  have hcc := hsl.2.1
  have hsz12 := hb2.size
  have H := hide hsl
  have O2 := hide (groups_below O1.out hb2)
  have Sh := hide (shuns_above O2.out)
  have B2 := hide (B1.out.trans (hb2.mono B1.out.size))
  clear hsl hb2 hLn hup O1 B1 Hhas
  go_wp2
  go_loopw [4, 12] (fun u x wr => ∃ k : Nat, k ≤ n ∧ x = .int .i64 k ∧ OwnG wr w2.heap.size 32 u ((L.take k).map fun c => (c, offs d c)) ∧ Below w2.heap.size w2 wr) (fun _ x _ => n - (intOf x).toNat)
  case atStart => exact ⟨0, Nat.zero_le _, rfl, OwnG.nil _ _ _, Below.refl _ _⟩
  case round =>
    obtain ⟨k, hk, rfl, hown, hb⟩ := hrel
    obtain ⟨wo, hwo⟩ : ∃ wo, wo = wr := ⟨wr, rfl⟩
    subst hwo
    have hsz := hb.size
    by_cases hlt : k < n
    · obtain ⟨ad, z, rfl, hz, hcell⟩ := num_cell (H.out.below hb).reads hlt
      have hst := gk_succ d L k z hz
      have hkl : ((L.take k).map fun c => (c, offs d c)).length ≤ 1000000 := by rw [List.length_map, List.length_take]; omega
      have Hwz := hide (Hwf.out z (List.mem_of_getElem? hz))
      have O3 := hide (groups_below O2.out hb)
      have Sh3 := hide (shuns_below Sh.out (by omega) hb)
      have Hb := hide hb
      obtain ⟨G, hG⟩ : ∃ G, ((L.take k).map fun c => (c, offs d c)) = G := ⟨_, rfl⟩
      rw [hG] at hst hkl hown
      have Hst := hide hst
      have Hown := hide hown
      clear hst hG hown hb hz
      go_wp2_with (first
        | (at_lookup; refine wpList_lookup_groups_shuns _ rfl _ _ 53 rfl 3 24 3 .i64 keyed3 Try.underlying53 (zero38 _) base b mm _ rfl O3.out (by unfold maxLen; omega) _ _ rfl (keyOf_int_mk Try.underlying3 Hwz.out) ?_; intro v zs hat hoi hzl _ hsh; have hzs := G1.out.is hoi hat; obtain ⟨A1, m1, c1, rfl, hs1, -⟩ := ownsInts_sl hoi; rw [hzs] at hs1; have HL := hide (Hown.out.lies_old hs1 fun ad e => by (subst e; have := hsh _ Sh3.out ad.block rfl; omega)); clear hzs hs1 hat hoi hsh hzl)
        | (at_builtin; refine wp_push_gram rfl (.tmp 16) (.tmp 22) 30 rfl 32 g0 (.agg #[.int .i64 0, .slice none 0 0]) 32 Try.underlying30 gi gz0 gz1 gz2 rfl w2.heap.size u4 G rfl _ z A1 m1 c1 (offs d z) Hown.out hsz _ rfl rfl HL.out (by omega) (by unfold maxLen; omega) _ ?_)
        | fail)
      intro v' w' hown' hb'
      rw [Hst.out] at hown'
      have Hn := hide hown'
      have Hb4 := hide (Hb.out.trans hb')
      clear hown' hb'
      go_wp2
      go_roundw
      case rel => exact ⟨k + 1, by omega, by go_num, Hn.out, Hb4.out⟩
      case measure => simp [intOf]; omega
    · rw [List.take_of_length_le (by rw [Hlen.out]; omega)] at hown
      have hown2 := hown.s
      rw [← Hg.out] at hown2
      obtain ⟨A', n', c', rfl, hg⟩ := hown2
      have Hgr := hide hg
      have Bl := hide (B2.out.trans (hb.mono B2.out.size))
      clear hown hb hg
      go_wp2
      go_ret
      exact ⟨_, _, _, rfl, Hgr.out, Bl.out⟩

end Go.Proofs.Ytdneoeiggebijaa

