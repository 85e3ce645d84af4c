/- Walks of layer 6's reference: Grams. -/
import Derived.Test.YtdegppifgcbaeaaT3
namespace Go.Proofs.Ytdegppifgcbaeaa
open Go.RowKit

theorem infoG : (Try.prog.info? 39).map (fun i => (i.zero, i.size, i.bytes)) = some (some (.agg #[.int .i64 0, .slice none 0 0]), 2, 32) := by kernel_rfl

theorem OwnG.lies_new {w w' : World} {B : Nat} {e : TypeId} {v : Value} {gs : List (Int × List Int)} {A : Option Addr} {n c : Nat} {xs : List Value} (h : OwnG w B e v gs) (hs : Sl w' A n c xs) (hg : ∀ ad, A = some ad → w.heap.size ≤ ad.block) : Lies w' v A n c xs := by
  obtain ⟨cs, h1, _⟩ := h
  exact ⟨hs, fun _ ad e' hv => by
    have := (h1.lt _ hv).2
    have := hg ad e'
    omega⟩
theorem gk_succ (d : List UInt8) (L : List Int) (k : Nat) (z : Int) (h : L[k]? = some z) : ((L.take k).map fun c => (c, offs d c)) ++ [(z, offs d z)] = (L.take (k + 1)).map fun c => (c, offs d c) := by
  rw [take_at L k z h, List.map_append]
  rfl

set_option maxRecDepth 20000 in
set_option maxHeartbeats 3200000 in
theorem rgrams19 (s : ByteArray) (w : World) (hs : s.size ≤ 1000000) :
    Calls Try.prog 19 #[.string s] w (GotG w (gramsS s.data.toList)) := by
  obtain ⟨i0, hi, hz0, hz1, hz2⟩ := info_parts infoI
  obtain ⟨g0, gi, gz0, gz1, gz2⟩ := info_parts infoG
  obtain ⟨d, hd⟩ : ∃ d, s.data.toList = d := ⟨_, rfl⟩
  have Hd := hide hd
  have Hdl := hide (show d.length = s.size by rw [← hd, size_list])
  have hof := rof16 s w (by omega)
  rw [hd] at hof ⊢
  clear hd
  obtain ⟨L, hL⟩ : ∃ L, ofS d = L := ⟨_, rfl⟩
  have hLl := of_len d
  have Hg := hide (show gramsS d = L.map fun c => (c, offs d c) by unfold gramsS; rw [hL])
  rw [hL, Hdl.out] at hLl
  rw [hL] at hof
  clear hL
  go_enter Try.func19, Try.ntmps19
  go_wp2_with fail
  refine hof.mono ?_
  rintro e w1 ⟨A, n, c, rfl, hsl, hb1⟩
  have Hlen := hide hsl.nlen
  have hn : n ≤ s.size := by have := hsl.nlen; omega
  have hnc := hsl.1
  have hcc := hsl.2.1
  have H := hide hsl
  have Hb1 := hide hb1
  clear hsl hb1 hof hLl
  go_wp2
  go_loopw [4, 5] (fun u x wr => ∃ k : Nat, k ≤ n ∧ x = .int .i64 k ∧ OwnG wr w1.heap.size 39 u ((L.take k).map fun c => (c, offs d c)) ∧ Below w1.heap.size w1 wr) (fun _ x _ => n - (intOf x).toNat)
  case atStart => exact ⟨0, Nat.zero_le _, rfl, OwnG.nil _ _ _, Below.refl _ _⟩
  case round =>
    obtain ⟨k, hk, rfl, hown, hb⟩ := hrel
    obtain ⟨wo, hwo⟩ : ∃ wo, wo = wr := ⟨wr, rfl⟩
    subst hwo
    have hsz := hb.size
    have Hown := hide hown
    have Hb := hide hb
    by_cases hlt : k < n
    · obtain ⟨ad, z, rfl, hz, hcell⟩ := num_cell (H.out.below hb).reads hlt
      have hst := gk_succ d L k z hz
      have hkl : ((L.take k).map fun c => (c, offs d c)).length ≤ 1000000 := by rw [List.length_map, List.length_take]; omega
      clear Hown hb hz
      obtain ⟨G, hG⟩ : ∃ G, ((L.take k).map fun c => (c, offs d c)) = G := ⟨_, rfl⟩
      rw [hG] at hst hkl hown
      have Hst := hide hst
      have Hown := hide hown
      clear hst hG hown
      go_wp2
      go_loopw [7] (fun x w2 => ∃ (i : Nat) (v1 : Value), i ≤ s.size - 2 ∧ x = .int .i64 i ∧ TwoF w2 wo.heap.size (.int .i64 z) v1 ∧ Own w2 (wo.heap.size + 1) 3 v1 (numCells (offsN d z i)) ∧ Below wo.heap.size wo w2) (fun x _ => s.size - (intOf x).toNat)
      case atStart => exact ⟨0, .slice none 0 0, Nat.zero_le _, rfl, twoF_alloc _ _ _ _, World.ownsRow_nil _ _ _ _, bnew (Below.refl _ wo) _⟩
      case round =>
        obtain ⟨i, v1, hi1, rfl, ht, ho, hb2⟩ := hrel
        obtain ⟨w2, hw2⟩ : ∃ w2, w2 = wr := ⟨wr, rfl⟩
        subst hw2
        have hsz2 : wo.heap.size + 1 ≤ w2.heap.size := ht.1.1
        have Ht := hide ht
        have Ho := hide ho
        have Hb2 := hide hb2
        by_cases hlt2 : i + 2 < s.size
        · have hc2 : w2.cell? (ad.add k) = some (.int .i64 z) := (hb2.cell (World.block_lt_of_cell? _ _ hcell)).trans hcell
          have hol : (numCells (offsN d z i)).length ≤ 1000000 := by rw [num_len]; have := offsN_len d z i; omega
          clear ht ho hb2
          by_cases he : tri d i = z
          · have E : numCells (offsN d z i) ++ [.int .i64 (i : Int)] = numCells (offsN d z (i + 1)) := by
              rw [offsN_succ, if_pos he, num_app]; rfl
            have He := hide he
            have E' := hide E
            clear he E
            go_wp2
            go_quiet ((go_at_call 27; exact quiet_drawn (at27 s i z _ hlt2 (by omega) (by rw [Hd.out]; exact He.out))))
            obtain ⟨w3, hw3⟩ : ∃ w3, w3 = w2.drewN nq := ⟨_, rfl⟩
            have D3 : Below w2.heap.size w2 w3 := by rw [hw3]; exact Drawn.below ⟨nq, rfl⟩ _
            have ht3 := Ht.out.keep D3
            have Ho3 := hide (Ho.out.below D3)
            have Hb3 := hide (Hb2.out.trans (D3.mono (by omega)))
            have hsz3 : wo.heap.size + 1 ≤ w3.heap.size := ht3.1.1
            rw [← hw3]
            have Ht3 := hide ht3
            obtain ⟨⟨_, t0, t1⟩, tf0, tf1⟩ := ht3
            clear hw3 D3
            go_wp2_with (at_builtin; refine wp_push_far rfl (.tmp 37) (.tmp 39) 29 rfl 3 i0 (.int .i64 0) 8 Try.underlying29 hi hz0 hz1 hz2 rfl (wo.heap.size + 1) _ (numCells (offsN d z i)) rfl _ _ rfl Ho3.out hsz3 _ rfl rfl (by omega) (by unfold maxLen; omega) _ ?_)
            intro v' w' hown' hb' _
            rw [E'.out] at hown'
            obtain ⟨A2, m2, c2, rfl, -, -⟩ := hown'.slI
            have Ht4 := Ht3.out.at_ hb' (Nat.lt_succ_self _)
            have Ht5 := hide (Ht4.put1 (.slice A2 m2 c2))
            have Ho5 := hide (hown'.set_other (Nat.lt_succ_self _) 1 (.slice A2 m2 c2))
            have Hb5 := hide ((Hb3.out.trans (hb'.mono (Nat.le_succ _))).setCell (show wo.heap.size ≤ (⟨wo.heap.size, 1, none⟩ : Addr).block from Nat.le_refl _) (.slice A2 m2 c2))
            obtain ⟨⟨_, q0, q1⟩, f0, f1⟩ := Ht4
            clear hown' hb' t0 t1 tf0 tf1
            go_wp2
            go_roundw
            case rel => exact ⟨i + 1, .slice A2 m2 c2, by omega, by go_num, Ht5.out, Ho5.out, Hb5.out⟩
            case measure => simp [intOf]; omega
          · obtain ⟨m, hm⟩ : ∃ m, tri d i = m := ⟨_, rfl⟩
            have E : offsN d z i = offsN d z (i + 1) := by rw [offsN_succ, if_neg he, List.append_nil]
            rw [hm] at he
            have hbeq : (m == z) = false := beq_eq_false_iff_ne.2 he
            have Hm := hide hm
            have E' := hide E
            clear hm he E
            go_wp2
            go_quiet ((go_at_call 27; exact quiet_drawn (at27 s i m _ hlt2 (by omega) (by rw [Hd.out]; exact Hm.out))))
            go_wp2
            go_roundw
            case rel =>
              have D3 : Below w2.heap.size w2 (w2.drewN nq) := Drawn.below ⟨nq, rfl⟩ _
              exact ⟨i + 1, v1, by omega, by go_num, Ht.out.keep D3, by rw [← E'.out]; exact Ho.out.below D3, Hb2.out.trans (D3.mono (by omega))⟩
            case measure => simp [intOf]; omega
        · have hall : offsN d z i = offs d z := by
            unfold offs
            rw [Hdl.out, show i = s.size - 2 by omega]
          rw [hall] at ho
          obtain ⟨A1, m1, c1, rfl, -, hs1, hlo⟩ := ho.i
          have HO := hide (Hown.out.below hb2)
          have HL := hide (Hown.out.lies_new hs1 (fun ad e => by have := hlo ad e; omega))
          have Hb3 := hide (Hb.out.trans (hb2.mono hsz))
          have hszB : w1.heap.size ≤ w2.heap.size := by omega
          obtain ⟨⟨_, t0, t1⟩, tf0, tf1⟩ := ht
          have hdd : decide ((i : Int) + 2 < (s.size : Int)) = false := decide_eq_false (by omega)
          clear ho hb2 hall hs1 hlo
          go_wp2_with (at_builtin; refine wp_push_gram rfl (.tmp 42) (.tmp 44) 32 rfl 39 g0 (.agg #[.int .i64 0, .slice none 0 0]) 32 Try.underlying32 gi gz0 gz1 gz2 rfl w1.heap.size u4 G rfl _ z A1 m1 c1 (offs d z) HO.out hszB _ rfl rfl HL.out (by omega) (by unfold maxLen; omega) _ ?_)
          intro v' w' hown' hb'
          rw [Hst.out] at hown'
          have Hn := hide hown'
          have Hb4 := hide (Hb3.out.trans hb')
          clear hown' hb'
          go_wp2
          go_roundw
          case rel => exact ⟨k + 1, by omega, by go_num, Hn.out, Hb4.out⟩
          case measure => simp [intOf]; omega
    · rw [List.take_of_length_le (by rw [Hlen.out]; omega)] at hown
      have hown2 := hown.s
      rw [← Hg.out] at hown2
      obtain ⟨A', n', c', rfl, hg⟩ := hown2
      have Hgr := hide hg
      have Bl := hide (Hb1.out.trans (hb.mono Hb1.out.size))
      clear hown hb hg
      go_wp2
      go_ret
      exact ⟨_, _, _, rfl, Hgr.out, Bl.out⟩

end Go.Proofs.Ytdegppifgcbaeaa
