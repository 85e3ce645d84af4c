/- Walks of layer 6's program: codes, Of. -/
import Derived.Test.YtdneoeiggebijaaU2
import Derived.Test.YtdneoeiggebijaaU3
namespace Go.Proofs.Ytdneoeiggebijaa
open Go.RowKit Go.Maps

section
variable {P : Program} (w : World) {ops : Array Oper} {rest : List Oper} {o : Oper} {a : Act} {Q : Exit → Act → World → Prop}
/-- The step of a range over a map, keys of an integer kind, elements whatever. -/
theorem wpList_next_iv (hg : o.guard = none) (it : Operand) (hop : o.op = Op.next it false) (k : TypeId) (qk : IntKind) (K : Keyed P k) (hk : P.underlying k = some (.int qk)) (R : Value → Option (DataW Unit × List MemPlace))
    (b r n : Nat) (D : DataW Unit) (left : Lit → Bool) (cnt : Nat) (hit : a.eval it = .pointer (some ⟨r, 0, none⟩)) (h : w.ranges P k R b r n D left cnt)
    (hDone : cnt = 0 → (∀ kl, left kl = false) → wpList P ops Q rest (a.put o.dst (.tuple #[.bool false])) w)
    (hMore : ∀ (x : Int) (c : Value) (w' : World) (cnt' : Nat), (Lit.int qk x).wf = true → left (.int qk x) = true → has D (.int qk x) = true → w'.ranges P k R b r n D (fun z => left z && !z.sameKey (.int qk x)) cnt' → cnt' < cnt →
      w.grownBy w' (some r) → w'.heap.size = w.heap.size → (Instr.entry (.pointer (some ⟨r, 0, none⟩))).run P w' = .ok (.tuple #[.int qk x, c]) w' → wpList P ops Q rest (a.put o.dst (.tuple #[.bool true, .int qk x, c])) w') :
    wpList P ops Q (o :: rest) a w :=
  wpList_next_ranges w hg it hop k K R (Value.int qk) (fun v : Value => v) (fun key kl hkey => by obtain ⟨x, rfl, _⟩ := Maps.keyOf_int_inv hk hkey; exact ⟨x, rfl⟩) (fun v y _ => ⟨v, rfl⟩)
    b r n D left cnt hit h hDone (fun x c kl y w' cnt' hkey hlk hv hat hrg hlt hgr hsz hen => by
      obtain ⟨x', ex, rfl, hwx⟩ := Maps.keyOf_int_inv hk hkey
      cases ex
      exact hMore x c w' cnt' hwx hlk (has_true_of_atKey hat) hrg hlt hgr hsz hen)
end

set_option maxRecDepth 20000 in
set_option maxHeartbeats 1600000 in
theorem codes39 (R : Value → Option (DataW Unit × List MemPlace)) (b n : Nat) (D : DataW Unit) (L : List Int) (w : World) (hown : w.ownsMap Try.prog 3 R b n D) (hL : Up L) (hD : ∀ x, has D (.int .i64 x) = true ↔ x ∈ L) (hn : n ≤ 100000) :
    Calls Try.prog 39 #[.map (some b)] w (GotI w L) := by
  obtain ⟨i0, hi, hz0, hz1, hz2⟩ := info_parts infoI
  have HL := hide hL
  have HD := hide hD
  have hDs := hown.size_le
  have hbl := hown.lt
  have Ho := hide hown
  clear hL hD hown
  go_enter Try.func39, Try.ntmps39
  go_wp2_with (first
    | (at_range; refine wpList_range_own _ rfl _ 53 rfl 3 24 keyed3 Try.underlying53 R b n D rfl Ho.out ?_; intro w2 hrg2 hg2 hs2)
    | go_in)
  go_frame
  have B2 := hide ((Below.refl w.heap.size w).grown hg2 (Nat.le_refl _) fun g hg => by cases hg)
  clear hg2
  go_loopw [3] (fun v wr => ∃ (left : Lit → Bool) (cnt : Nat) (out : List Int), wr.ranges Try.prog 3 R b w.heap.size n D left cnt ∧ Own wr (w.heap.size + 1) 3 v (numCells out) ∧ Coll D left out ∧ out.length + cnt ≤ Maps.size D ∧ Below w.heap.size w wr ∧ w.heap.size + 1 ≤ wr.heap.size) (fun _ wr => wr.rangeLeft b w.heap.size)
  case atStart => exact ⟨has D, Maps.size D, [], hrg2, World.ownsRow_nil _ _ _ _, Coll.start D, by simp, B2.out, by omega⟩
  case round =>
    clear hrg2 hs2 B2 Ho
    obtain ⟨left, cnt, out, hrg, hown, hcoll, hlen, hbel, hsz3⟩ := hrel
    obtain ⟨w3, hw3⟩ : ∃ w3, w3 = wr := ⟨wr, rfl⟩
    subst hw3
    obtain ⟨v, hvv⟩ : ∃ v, v = u3 := ⟨u3, rfl⟩
    subst hvv
    have Hcoll := hide hcoll
    have B3 := hide hbel
    have O3 := hide hown
    have hsz4 := hbel.size
    have hnl := num_len out
    clear hcoll hbel hown
    go_wp2_with (first
      | (at_next; refine wpList_next_iv _ rfl _ rfl 3 .i64 keyed3 Try.underlying3 R b w.heap.size _ _ _ _ rfl hrg ?_ ?_)
      | go_in)
    · intro _ hl0
      have Hs := hide (Hcoll.out.sorted HL.out HD.out hl0)
      clear hrg hl0
      go_wp2_with fail
      with_reducible refine (sort44 v out _ _ O3.out (by omega)).mono ?_
      rintro e w4 ⟨rfl, ho4, hb4⟩
      rw [Hs.out] at ho4
      have O4 := hide ho4
      have B4 := hide (B3.out.trans (hb4.mono (by omega)))
      clear ho4 hb4
      go_wp2
      go_ret
      exact GrewI.got ⟨v, rfl, O4.out.mono (by omega), B4.out⟩
    · intro x c0 w4 cnt4 hwx hlx hhas hrg4 hlt4 hg4 hs4 hen
      have O4 := hide (O3.out.turned hg4 (by omega))
      have B4 := hide (B3.out.grown hg4 hsz4 fun g hg => by cases hg; omega)
      have hs4' : w.heap.size + 1 ≤ w4.heap.size := by omega
      have C4 := hide (Hcoll.out.yes hlx hhas)
      have R4 := hide hrg4
      have Rl := hide hrg.left_eq
      have hob : (numCells out).length ≤ 1000000 := by omega
      clear hs4 hhas hlx hrg4 hrg hg4
      go_wp2_with (first
        | (at_builtin; refine wp_push rfl (.tmp 11) (.tmp 13) 24 rfl 3 i0 (.int .i64 0) 8 Try.underlying24 hi hz0 hz1 hz2 rfl (w.heap.size + 1) _ (numCells out) rfl _ _ rfl O4.out.src hs4' _ rfl rfl (by omega) (by unfold maxLen; omega) ?_)
        | go_in)
      intro v' w5 ho5 hb5
      rw [show numCells out ++ [Value.int .i64 x] = numCells (out ++ [x]) by rw [num_app]; rfl] at ho5
      have O5 := hide ho5
      have R5 := hide (ranges_below R4.out hb5 (by omega) (by omega))
      have B5 := hide (B4.out.trans (hb5.mono (by omega)))
      have hsz5 := hb5.size
      clear ho5 hb5
      go_wp2
      go_roundw
      case rel => exact ⟨_, cnt4, out ++ [x], R5.out, O5.out, C4.out, by rw [List.length_append, List.length_singleton]; omega, B5.out, by omega⟩
      case measure => rw [R5.out.left_eq, Rl.out]; exact hlt4

theorem GotM.has {D : DataW Unit} {d : List UInt8} (h : Groups D (offs d)) : ∀ x, has D (.int .i64 x) = true ↔ x ∈ ofS d := fun x => (h.2 x).2.trans (offs_mem d x)

theorem of25 (s : ByteArray) (w : World) (hs : s.size ≤ 4000) : Calls Try.prog 25 #[.string s] w (GotI w (ofS s.data.toList)) := by
  go_enter Try.func25, Try.ntmps25
  go_wp2_with fail
  refine (offs38 s w (by omega)).mono ?_
  rintro e w1 ⟨b, base, n, D, rfl, hown, hgr, hn, -, -, hb⟩
  have Ho := hide (groups_map hown)
  have Hd := hide (GotM.has hgr)
  have B1 := hide hb
  clear hown hgr hb
  go_wp2_with fail
  with_reducible refine (codes39 _ b n D (ofS s.data.toList) _ Ho.out (up_of _) Hd.out hn).mono ?_
  rintro e w2 ⟨A, m, c, rfl, h2, hb2⟩
  have H2 := hide h2
  have B2 := hide (B1.out.trans (hb2.mono B1.out.size))
  clear h2 hb2
  go_wp2
  go_ret
  exact ⟨_, _, _, rfl, H2.out, B2.out⟩

end Go.Proofs.Ytdneoeiggebijaa
