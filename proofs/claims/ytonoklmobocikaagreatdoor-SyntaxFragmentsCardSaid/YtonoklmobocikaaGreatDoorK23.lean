/- Lemmas. -/
import Derived.Defers
import Derived.Recover
import Derived.Deep.DeepCutAuto
import Derived.Deep.RegionLaw
import Derived.Test.YtonoklmobocikaaGreatDoorK22
set_option linter.unusedVariables false
set_option linter.unusedSimpArgs false
set_option maxRecDepth 20000
set_option maxHeartbeats 6400000
namespace Go.Proofs.YtonoklmobocikaaGreatDoor
section
open Go.RowKit
section
variable {W:World} {p:Nat} {A:Option Addr} {n c:Nat} {len:Int} {T:List Tk} {i:Nat}
theorem imp_acc (E:Nat→Option (Oc Nd)) (K k j:Nat) (acc:List Nd):(jaf (jaf (impQ T len j) fun x j1=>jaf (impL T len k j1) fun (l:List Nd) j2=>some (Except.ok (x :: l,j2))) fun (a:List Nd) j2=>jaf (decL T E K j2) fun b j3=>some (Except.ok (Nd.mk 1 [] 0 len (acc++a++b),j3))) =
    jaf (impQ T len j) fun x j1=>jaf (impL T len k j1) fun (a:List Nd) j2=>jaf (decL T E K j2) fun b j3=>some (Except.ok (Nd.mk 1 [] 0 len ((acc++[x])++a++b),j3)):=by
  rw[je0];congr 1;funext x j1;rw[je0];congr 1;funext l j2;simp[jaf]
theorem dec_acc (E:Nat→Option (Oc Nd)) (k j:Nat) (acc:List Nd):(jaf (jaf (E j) fun x j1=>jaf (decL T E k j1) fun (l:List Nd) j2=>some (Except.ok (x :: l,j2))) fun (b:List Nd) j2=>some (Except.ok (Nd.mk 1 [] 0 len (acc++b),j2))) =
    jaf (E j) fun x j1=>jaf (decL T E k j1) fun (b:List Nd) j2=>some (Except.ok (Nd.mk 1 [] 0 len ((acc++[x])++b),j2)):=by
  rw[je0];congr 1;funext x j1;rw[je0];congr 1;funext l j2;simp[jaf]
theorem impQ_lt {x:Nd} {j:Nat} (h:impQ T len i=some (.ok (x,j))):i<j:=by
  unfold impQ at h
  cases hw:jbx T len jft i with
  | error a=>rw[hw] at h;cases h
  | ok u =>
    obtain ⟨u,q⟩:=u;have l1:=jg4 hw;rw[hw] at h;simp only[ja7] at h
    cases hn:jeb T len q with
    | error a=>rw[hn] at h;cases h
    | ok x =>
      obtain ⟨x,q2⟩:=x;have l2:=jlq hn;rw[hn] at h;simp only[ja7] at h
      cases hw2:jbx T len [59] q2 with
      | error a=>rw[hw2] at h;cases h
      | ok u2=>obtain ⟨u2,q3⟩:=u2;have l3:=jg4 hw2;rw[hw2] at h;cases h;omega
set_option maxHeartbeats 12800000 in
theorem qmodule (hrs:QS W p A n c len T 0) {f K:Nat} {R:Oc Nd} (hR:modQ T len (jbc T len f .decl) K=some R) :
    Calls Tryz.prog 34 #[.pointer (some ⟨p,0,none⟩)] W (jgh p A n c len T W 0 R):=by
  obtain ⟨i0,hi0,hz0,hz1,hz2⟩:=info_parts jfd;unfold modQ at hR;have hn6:=hrs.n6;have HN:=jj hrs.tks.1;have HIH:=jj (show ∀X (i:Nat) (r:Oc Nd),jbc T len f .decl i=some r→QS X p A n c len T i→Calls Tryz.prog 63 #[.pointer (some ⟨p,0,none⟩)] X (jgh p A n c len T X i r) from fun X i r h hX=>qread f .decl i r h X hX);have h0:=QW.start hrs;obtain ⟨w0,hw0⟩:=jx (W.alloc (.cells #[.int .i64 0,.string ⟨#[]⟩,.int .i64 0,.int .i64 0,.slice none 0 0] 25));rw[hw0] at h0;have G0:=jj h0;have HW:=jj hw0;have HPL:=jj (show p<W.heap.size+1 by have:=hrs.st.lt;omega);clear h0 hw0;have H:=jj hR;clear hrs hR;go_enter Tryz.func34,Tryz.ntmps34;go_wp2_with fail;rw[HW.out];clear HW
  go_loopw [3] (fun u wr=>∃(acc:List Nd) (j k':Nat),OwnN wr (W.heap.size+1) u acc∧QW p A n c len T W wr j∧(jaf (impL T len k' j) fun (a:List Nd) j2=>jaf (decL T (jbc T len f .decl) K j2) fun b j3=>some (Except.ok (Nd.mk 1 [] 0 len (acc++a++b),j3)))=some R∧acc.length≤j) (fun _ wr=>jhn p n wr)
  case atStart=>exact ⟨[],0,K,OwnN.nil _ _,G0.out,H.out,Nat.zero_le _⟩
  case round =>
    clear G0 H;obtain ⟨acc,j,k',ho,hs,hsp,hl⟩:=hrel;obtain ⟨wo,hwo⟩:∃wo,wo=wr:=⟨wr,rfl⟩;subst hwo;obtain ⟨A0,m0,d0,rfl,-⟩:=ho.nds;have Hleft:=jj hs.rs.left;have hjn:=hs.rs.ib;have HAL:=jj (show acc.length≤2000001 by omega);have G0:=jj hs;have O0:=jj ho;have H:=jj hsp;clear ho hs hsp
    cases k' with
    | zero=>cases H.out
    | succ k' =>
    by_cases hc:jbg T j=jft
    · skip
      have hE:=H.out;clear H;unfold impL at hE;rw[if_pos hc,imp_acc] at hE;have H:=jj hE;clear hE;have HSe:=jj (jlp G0.out.rs jft ⟨#[105,109,112,111,114,116]⟩ rfl hc);have HSR:=jj (Nat.le_refl wo.heap.size);have O1:=jj (show ∀X u r,NdV X (fun g=>wo.heap.size≤g) u r→NdV X (fun g=>W.heap.size+1≤g∧(Value.slice A0 m0 d0).ownBlock≠some g) u r from fun X u r h=>h.fresh O0.out G0.out.size);go_wp2_with fail;(with_reducible refine (HSe.out).mono ?_);rintro e wx ⟨rfl,rfl⟩;go_wp2_with fail;obtain ⟨r1,hr1,hr2⟩:=jbt H.out;clear H;have H:=jj hr2;clear hr2;have HR1:=jj hr1;(with_reducible refine (qimp G0.out.rs hr1).mono ?_);rintro e w22 ⟨b22,hr22⟩
      cases hq22:r1 with
      | error a =>
        rw[hq22] at hr22;obtain rfl:e=jbk a:=hr22;have hE:=H.out;rw[hq22] at hE;cases hE;have BX:=jj (G0.out.bt.trans b22);clear b22 hq22;unfold jbk;go_wp2;exact ⟨rfl,BX.out,rfl⟩
      | ok z22 =>
        obtain ⟨y,i22⟩:=z22;rw[hq22] at hr22;obtain ⟨⟨qA22,qm22,qd22,rfl,hv22⟩,hs22,hl22⟩:=hr22;dsimp only at hl22 hs22 hv22;have hE:=H.out;rw[hq22] at hE;have H:=jj (show (jaf (impL T len k' i22) fun (a:List Nd) j2=>jaf (decL T (jbc T len f .decl) K j2) fun b j3=>some (Except.ok (Nd.mk 1 [] 0 len ((acc++[y])++a++b),j3)))=some R from hE);clear hE;have HQE:=jj hq22;clear hq22;(try dsimp only);have V1:=jj (hv22.wide (B':=wo.heap.size) HSR.out);have G22:=jj (G0.out.next hs22 b22);have V2:=jj (O0.out.bt b22 HPL.out);clear O0;clear hs22 b22 G0 hv22;have HQI:=jj (impQ_lt (HR1.out.trans (congrArg some HQE.out)));clear HR1 HQE;clear hr1;have V3:=jj (O1.out _ _ _ V1.out);clear V1;go_wp2_with (at_builtin;refine jc5 rfl (.tmp 6) (.tmp 9) 23 rfl i0 _ 64 Tryz.underlying23 hi0 hz0 hz1 hz2 rfl (W.heap.size+1) (.slice A0 m0 d0) acc rfl w22 _ _ _ _ _ y V2.out G22.out.size _ rfl rfl V3.out (by have:=HAL.out;omega) (by have:=HAL.out;unfold maxLen;omega) ?_);intro v23 w23 ho23 b23 far23;obtain ⟨qA23,qm23,qd23,rfl,-⟩:=ho23.nds;have G23:=jj (G22.out.push b23);have V4:=jj ho23;clear b23 ho23 far23 V3 V2 G22;have Hl2:=jj (G23.out.rs.left);go_wp2;go_roundw
        case rel=>exact ⟨acc++[y],i22,k',V4.out,G23.out,H.out,by have:=HQI.out;simp only[List.length_append,List.length_cons,List.length_nil];omega⟩
        case measure=>show jhn p n _<jhn p n _;rw[Hl2.out,Hleft.out];have:=HQI.out;have:=G23.out.rs.ib;omega
    · skip
      have hE:=H.out;clear H;unfold impL at hE;rw[if_neg hc] at hE;simp only[ja7,List.append_nil] at hE;have H:=jj hE;clear hE;have HSe:=jj (jne G0.out.rs jft ⟨#[105,109,112,111,114,116]⟩ rfl hc);clear Hleft;go_wp2_with fail;(with_reducible refine (HSe.out).mono ?_);rintro e wx ⟨rfl,rfl⟩;clear HSe HAL;have hlj:=hl;clear hl hc;go_wp2_with fail
      go_loopw [3] (fun u wr=>∃(acc:List Nd) (j k':Nat),OwnN wr (W.heap.size+1) u acc∧QW p A n c len T W wr j∧(jaf (decL T (jbc T len f .decl) k' j) fun (b:List Nd) j3=>some (Except.ok (Nd.mk 1 [] 0 len (acc++b),j3)))=some R∧acc.length≤j) (fun _ wr=>jhn p n wr)
      case atStart=>exact ⟨acc,j,K,O0.out,G0.out,H.out,hlj⟩
      case round =>
        clear G0 H O0 hlj hjn k' acc j A0 m0 d0;obtain ⟨acc,j,k',ho,hs,hsp,hl⟩:=hrel;obtain ⟨wo,hwo⟩:∃wo,wo=wr:=⟨wr,rfl⟩;subst hwo;obtain ⟨A0,m0,d0,rfl,-⟩:=ho.nds;have Hleft:=jj hs.rs.left;have hjn:=hs.rs.ib;have HAL:=jj (show acc.length≤2000001 by omega);have G0:=jj hs;have O0:=jj ho;have H:=jj hsp;clear ho hs hsp
        cases k' with
        | zero=>cases H.out
        | succ k' =>
        have HEn:=jj (qended G0.out.rs);by_cases hc:T.length≤j
        · skip
          rw[decide_eq_true hc] at HEn;have hE:=H.out;clear H;unfold decL at hE;rw[if_pos hc] at hE;simp only[ja7,List.append_nil] at hE;have H:=jj hE;clear hE hc;go_wp2_with fail;(with_reducible refine (HEn.out).mono ?_);rintro e w41 ⟨rfl,hd41⟩;have G41:=jj (G0.out.drawn hd41);have V1:=jj (O0.out.below (hd41.below _));clear O0;clear hd41 G0;obtain ⟨k0,k1,k2⟩:=G41.out.rs.cells;have hE:=H.out;clear H;cases hE;obtain ⟨⟨-,x0,x1,x2,x3,x4⟩,g0,g1,g2,g3,g4⟩:=G41.out.box;go_wp2;exact bodyPost_ret (jag rfl _ _ W.heap.size _ _ _ _ _ rfl (ja3 G41.out.box _ _ _ _ _)) rfl (G41.out.fin (Nat.zero_le _) (V1.out.sl.node _ _ _ _))
        · skip
          rw[decide_eq_false hc] at HEn;have hE:=H.out;clear H;unfold decL at hE;rw[if_neg hc,dec_acc] at hE;have H:=jj hE;clear hE hc;have O1:=jj (show ∀X u r,NdV X (fun g=>wo.heap.size≤g) u r→NdV X (fun g=>W.heap.size+1≤g∧(Value.slice A0 m0 d0).ownBlock≠some g) u r from fun X u r h=>h.fresh O0.out G0.out.size);go_wp2_with fail;have HSR0:=jj (Nat.le_refl wo.heap.size);(with_reducible refine (HEn.out).mono ?_);rintro e w51 ⟨rfl,hd51⟩;have HSR:=jj (hd51.below 0).size;have G51:=jj (G0.out.drawn hd51);have V1:=jj (O0.out.below (hd51.below _));clear O0;clear hd51 G0;go_wp2_with fail;obtain ⟨r1,hr1,hr2⟩:=jbt H.out;clear H;have H:=jj hr2;clear hr2;have HR1:=jj hr1;(with_reducible refine (HIH.out _ _ _ hr1 G51.out.rs).mono ?_);rintro e w53 ⟨b53,hr53⟩
          cases hq53:r1 with
          | error a =>
            rw[hq53] at hr53;obtain rfl:e=jbk a:=hr53;have hE:=H.out;rw[hq53] at hE;cases hE;have BX:=jj (G51.out.bt.trans b53);clear b53 hq53;unfold jbk;go_wp2;exact ⟨rfl,BX.out,rfl⟩
          | ok z53 =>
            obtain ⟨y,i53⟩:=z53;rw[hq53] at hr53;obtain ⟨⟨qA53,qm53,qd53,rfl,hv53⟩,hs53,hl53⟩:=hr53;dsimp only at hl53 hs53 hv53;have hE:=H.out;rw[hq53] at hE;have H:=jj (show (jaf (decL T (jbc T len f .decl) k' i53) fun (b:List Nd) j3=>some (Except.ok (Nd.mk 1 [] 0 len ((acc++[y])++b),j3)))=some R from hE);clear hE;have HQE:=jj hq53;clear hq53;(try dsimp only);have V2:=jj (hv53.wide (B':=wo.heap.size) HSR.out);have G53:=jj (G51.out.next hs53 b53);have V3:=jj (V1.out.bt b53 HPL.out);clear V1;clear hs53 b53 G51 hv53;have HQI:=jj (jhw rfl (HR1.out.trans (congrArg some HQE.out)));clear HR1 HQE;clear hr1;have V4:=jj (O1.out _ _ _ V2.out);clear V2;go_wp2_with (at_builtin;refine jc5 rfl (.tmp 14) (.tmp 17) 23 rfl i0 _ 64 Tryz.underlying23 hi0 hz0 hz1 hz2 rfl (W.heap.size+1) (.slice A0 m0 d0) acc rfl w53 _ _ _ _ _ y V3.out G53.out.size _ rfl rfl V4.out (by have:=HAL.out;omega) (by have:=HAL.out;unfold maxLen;omega) ?_);intro v54 w54 ho54 b54 far54;obtain ⟨qA54,qm54,qd54,rfl,-⟩:=ho54.nds;have G54:=jj (G53.out.push b54);have V5:=jj ho54;clear b54 ho54 far54 V4 V3 G53;have Hl2:=jj (G54.out.rs.left);go_wp2;go_roundw
            case rel=>exact ⟨acc++[y],i53,k',V5.out,G54.out,H.out,by have:=HQI.out;simp only[List.length_append,List.length_cons,List.length_nil];omega⟩
            case measure=>show jhn p n _<jhn p n _;rw[Hl2.out,Hleft.out];have:=HQI.out;have:=G54.out.rs.ib;omega
end
end
section
open Go.RowKit
theorem three_end {B b0 b1 b2:Nat} {c0 c1 c2 c3 c4 v1 v2 a k:Value} {w wf:World} (hB0:B≤b0) (hB1:B≤b1) (hB2:B≤b2) (h01:b0≠b1) (h02:b0≠b2) (h12:b1≠b2)
    (F0:FiveF wf b0 c0 c1 c2 c3 c4) (F1:wf.cell? ⟨b1,0,none⟩=some v1) (F2:wf.cell? ⟨b2,0,none⟩=some v2) (hb:Below B w wf) :
    FiveN ((((jex wf b0 (.int .i64 0) (.string ⟨#[]⟩) (.int .i64 0) (.int .i64 0) (.slice none 0 0)).setCell ⟨b1,0,none⟩ a).setCell ⟨b2,0,none⟩ k).drew) b0 (.int .i64 0) (.string ⟨#[]⟩) (.int .i64 0) (.int .i64 0) (.slice none 0 0) ∧
      ((((jex wf b0 (.int .i64 0) (.string ⟨#[]⟩) (.int .i64 0) (.int .i64 0) (.slice none 0 0)).setCell ⟨b1,0,none⟩ a).setCell ⟨b2,0,none⟩ k).drew).cell? ⟨b1,0,none⟩=some a ∧
      ((((jex wf b0 (.int .i64 0) (.string ⟨#[]⟩) (.int .i64 0) (.int .i64 0) (.slice none 0 0)).setCell ⟨b1,0,none⟩ a).setCell ⟨b2,0,none⟩ k).drew).cell? ⟨b2,0,none⟩=some k ∧
      Below B w ((((jex wf b0 (.int .i64 0) (.string ⟨#[]⟩) (.int .i64 0) (.int .i64 0) (.slice none 0 0)).setCell ⟨b1,0,none⟩ a).setCell ⟨b2,0,none⟩ k).drew):=by
  have hF:=((jdw F0 (.int .i64 0) (.string ⟨#[]⟩) (.int .i64 0) (.int .i64 0) (.slice none 0 0)).bt (Bt.set _ b1 0 a) h01).bt (Bt.set _ b2 0 k) h02;have hc1:(jex wf b0 (.int .i64 0) (.string ⟨#[]⟩) (.int .i64 0) (.int .i64 0) (.slice none 0 0)).cell? ⟨b1,0,none⟩=some v1:=(jd1 h01.symm).trans F1;have hc2:(jex wf b0 (.int .i64 0) (.string ⟨#[]⟩) (.int .i64 0) (.int .i64 0) (.slice none 0 0)).cell? ⟨b2,0,none⟩=some v2:=(jd1 h02.symm).trans F2;have hb5:=jaj (u0:=.int .i64 0) (u1:=.string ⟨#[]⟩) (u2:=.int .i64 0) (u3:=.int .i64 0) (u4:=.slice none 0 0) hb hB0;obtain ⟨w5,hw5⟩:=jx (jex wf b0 (.int .i64 0) (.string ⟨#[]⟩) (.int .i64 0) (.int .i64 0) (.slice none 0 0));rw[hw5] at hF hc1 hc2 hb5 ⊢;have hne:∀{p q:Nat} {v:Value} {X:World},p≠q→(X.setCell ⟨q,0,none⟩ v).cell? ⟨p,0,none⟩=X.cell? ⟨p,0,none⟩:=fun h=>World.cell?_setCell_other _ _ _ _ (fun e=>h (congrArg Addr.block e).symm);have e1:=World.cell?_setCell_same _ _ a hc1;have e2:=World.cell?_setCell_same _ _ k ((hne (v:=a) h12.symm).trans hc2);have hb6:=(hb5.setCell (p:=⟨b1,0,none⟩) hB1 a).setCell (p:=⟨b2,0,none⟩) hB2 k;have hs:=hb6.size;have hB:=hb.size;exact ⟨hF.1,(hne h12).trans e1,e2,hb6.drew⟩
theorem catch_flt (B b0 b1 b2:Nat) (a k z1 z2:Int) (c0 c1 c2 c3 c4:Value) (w:World) (hB0:B≤b0) (hB1:B≤b1) (hB2:B≤b2) (h01:b0≠b1) (h02:b0≠b2) (h12:b1≠b2) (hw:B≤w.heap.size)
    (F0:FiveF w b0 c0 c1 c2 c3 c4) (F1:b1<w.heap.size∧w.cell? ⟨b1,0,none⟩=some (.int .i64 z1)∧w.frozen? ⟨b1,0,none⟩=false) (F2:b2<w.heap.size∧w.cell? ⟨b2,0,none⟩=some (.int .i64 z2)∧w.frozen? ⟨b2,0,none⟩=false) :
    CallsD Tryz.prog 58 #[.pointer (some ⟨b0,0,none⟩),.pointer (some ⟨b1,0,none⟩),.pointer (some ⟨b2,0,none⟩)] (.panicking [{ v:=.iface 71 (.agg #[.int .i64 a,.int .i64 k]),recovered:=false }]) w fun e u' w' =>
      e=.returned (.tuple #[])∧u'=.panicking [{ v:=.iface 71 (.agg #[.int .i64 a,.int .i64 k]),recovered:=true }] ∧
        FiveN w' b0 (.int .i64 0) (.string ⟨#[]⟩) (.int .i64 0) (.int .i64 0) (.slice none 0 0)∧w'.cell? ⟨b1,0,none⟩=some (.int .i64 a)∧w'.cell? ⟨b2,0,none⟩=some (.int .i64 k)∧Below B w w':=by
  (have hta:∀w:World,(Instr.typeAssert (.iface 71 (.agg #[.int .i64 a,.int .i64 k])) 20 71 true).run Tryz.prog w=.ok (.tuple #[.agg #[.int .i64 a,.int .i64 k],.bool true]) w:=fun _=>by kernel_rfl);refine callsD_of_wpS Tryz.func58 rfl fun c₀ cs hu=>?_;apply wpS_seq;apply wpS_region;simp[wpOpsS,go_sem,recoverD,hu,Tryz.ntmps58,Exit.thenS,hta];obtain ⟨wf,hwf⟩:=jx (w.alloc (.cells #[.int .i64 a,.int .i64 k] 71));have hb:=jak (Below.refl _ w) (.cells #[.int .i64 a,.int .i64 k] 71);have hx:FltN (w.alloc (.cells #[.int .i64 a,.int .i64 k] 71)) w.heap.size (.int .i64 a) (.int .i64 k):=⟨by simp,by rw[World.cell?_alloc_mark];rfl,by rw[World.cell?_alloc_mark];rfl⟩;rw[hwf] at hb hx;rw[hwf];simp only[show Array.replicate 13 undef=#[undef,undef,undef,undef,undef,undef,undef,undef,undef,undef,undef,undef,undef] from rfl,List.setIfInBounds_toArray,List.set_cons_zero,List.set_cons_succ,List.append_toArray,List.cons_append,List.nil_append];refine wpS_of_wp ?_;have F0':=F0.keep hb;have F1':wf.cell? ⟨b1,0,none⟩=some (.int .i64 z1):=(hb.cell (p:=⟨b1,0,none⟩) F1.1).trans F1.2.1;have F2':wf.cell? ⟨b2,0,none⟩=some (.int .i64 z2):=(hb.cell (p:=⟨b2,0,none⟩) F2.1).trans F2.2.1;have R1':wf.frozen? ⟨b1,0,none⟩=false:=(hb.frozen (p:=⟨b1,0,none⟩) F1.1).trans F1.2.2;have R2':wf.frozen? ⟨b2,0,none⟩=false:=(hb.frozen (p:=⟨b2,0,none⟩) F2.1).trans F2.2.2;have n0:w.heap.size≠b0:=Ne.symm (Nat.ne_of_lt F0.1.1);have n1:w.heap.size≠b1:=Ne.symm (Nat.ne_of_lt F1.1);have n2:w.heap.size≠b2:=Ne.symm (Nat.ne_of_lt F2.1);have n0':=n0.symm;have n1':=n1.symm;have n2':=n2.symm;have h10:=h01.symm;have h20:=h02.symm;have h21:=h12.symm;have FX:=jj F0';have HBw:=jj hb;obtain ⟨⟨-,x0,x1,x2,x3,x4⟩,g0,g1,g2,g3,g4⟩:=F0';have hb0:=F0.1.1;obtain ⟨-,y0,y1⟩:=hx;generalize hQ:(fun (e:Exit) (a':Act) (w':World)=>bodyPostS Tryz.prog Tryz.f58 c₀ cs _ e a' _ w')=Q;have HQ:=jj hQ;clear hQ hu hta hwf F0 F1 F2;go_wp2_with fail;go_region;rw[←HQ.out];exact ⟨rfl,_,rfl,.tuple #[],results_none rfl _ _ _,rfl,rfl,three_end hB0 hB1 hB2 h01 h02 h12 FX.out F1' F2' (HBw.out.mono hw)⟩
theorem catch_idle (p0 p1 p2:Value) (w:World) :
    CallsD Tryz.prog 58 #[p0,p1,p2] .returning w fun e u' w'=>e=.returned (.tuple #[])∧u'=.returning∧Below w.heap.size w w':=by
  (have hta:∀w:World,(Instr.typeAssert .nilIface 20 71 true).run Tryz.prog w=.ok (.tuple #[.agg #[.int .i64 0,.int .i64 0],.bool false]) w:=fun _=>by kernel_rfl);refine callsD_of_wpS Tryz.func58 rfl fun c₀ cs hu=>?_;apply wpS_seq;apply wpS_region;simp[wpOpsS,go_sem,recoverD,hu,Tryz.ntmps58,Exit.thenS,hta];have hb:=jak (Below.refl _ w) (.cells #[.int .i64 0,.int .i64 0] 71);obtain ⟨wf,hwf⟩:=jx (w.alloc (.cells #[.int .i64 0,.int .i64 0] 71));rw[hwf] at hb ⊢;simp only[show Array.replicate 13 undef=#[undef,undef,undef,undef,undef,undef,undef,undef,undef,undef,undef,undef,undef] from rfl,List.setIfInBounds_toArray,List.set_cons_zero,List.set_cons_succ,List.append_toArray,List.cons_append,List.nil_append];refine wpS_of_wp ?_;generalize hQ:(fun (e:Exit) (a':Act) (w':World)=>bodyPostS Tryz.prog Tryz.f58 c₀ cs _ e a' _ w')=Q;have HQ:=jj hQ;have Hb:=jj hb;have HU:=jj hu;clear hQ hta hwf hb hu;go_wp2_with fail;rw[←HQ.out];exact ⟨rfl,_,by rw[←HU.out],.tuple #[],results_none rfl _ _ _,rfl,rfl,Hb.out⟩
end
section
open Go.RowKit
def jn7 (w:World) (x:Nd × Int × Int) (e:Ending) (w':World):Prop :=
  ∃A' m' d',e=.returned (.tuple #[.agg #[.int .i64 x.1.kind,.string (bs x.1.text),.int .i64 x.1.at_,.int .i64 x.1.en,.slice A' m' d'],.int .i64 x.2.1,.int .i64 x.2.2]) ∧
    NdV w' (fun g=>w.heap.size≤g) (.agg #[.int .i64 x.1.kind,.string (bs x.1.text),.int .i64 x.1.at_,.int .i64 x.1.en,.slice A' m' d']) x.1∧Below w.heap.size w w'
theorem jch {fn:Func} {p u v:Tmp} (h:fn.results=#[.cell p 25,.tmp u,.tmp v]) (tmps:Array Value) (W:World) (b:Nat) (c0 c1 c2 c3 c4 z z':Value) (hp:tmps.getD p undef=.pointer (some ⟨b,0,none⟩)) (hu:tmps.getD u undef=z) (hv:tmps.getD v undef=z') (hf:FiveN W b c0 c1 c2 c3 c4) :
    (results fn tmps).run Tryz.prog W=.ok (.tuple #[.agg #[c0,c1,c2,c3,c4],z,z']) W:=by
  (have hp':tmps[p]?.getD undef=.pointer (some ⟨b,0,none⟩):=by simpa using hp);(have hu':tmps[u]?.getD undef=z:=by simpa using hu);(have hv':tmps[v]?.getD undef=z':=by simpa using hv);simp[results,h,hp',hu',hv',asAddr,jil hf,Result.andThen]
end
section
open Go.RowKit
def topO (T:List Tk) (len:Int):Oc Nd→Nd × Int × Int
  | .error a=>(je8,a,11)
  | .ok z=>if z.2<T.length then (je8,jaq T len ⟨z.2,none⟩,11) else match jf1 12 z.1 with
    | some a=>(je8,a,4)
    | none=>(z.1,0,0)
theorem topO_is (T:List Tk) (len:Int) (r:Nd × Ps):topO T len (ocN r)=jm6 T len r:=by
  obtain ⟨x,j,b⟩:=r;unfold jm6
  cases b with
  | some a =>
    have h1:(if (⟨j,some a⟩:Ps).i<T.length then jgg T len ⟨j,some a⟩ else (⟨j,some a⟩:Ps)).bad=some a:=by
      split
      · unfold jgg;rfl
      · rfl
    show topO T len (.error a)=_;unfold topO;dsimp only at h1 ⊢;rw[h1]
  | none =>
    show topO T len (.ok (x,j))=_;unfold topO;dsimp only;by_cases h:j<T.length
    · rw[if_pos h,if_pos h];try rfl
    · rw[if_neg h,if_neg h];try rfl
theorem three_ok {B b0 b1 b2:Nat} {c0 c1 c2 c3 c4 v1 v2:Value} (u0 u1 u2 u3 u4 a k:Value) {w wf:World} (hB0:B≤b0) (hB1:B≤b1) (hB2:B≤b2) (h01:b0≠b1) (h02:b0≠b2) (h12:b1≠b2)
    (F0:FiveF wf b0 c0 c1 c2 c3 c4) (F1:wf.cell? ⟨b1,0,none⟩=some v1) (F2:wf.cell? ⟨b2,0,none⟩=some v2) (hb:Below B w wf) :
    FiveN (((jex wf b0 u0 u1 u2 u3 u4).setCell ⟨b1,0,none⟩ a).setCell ⟨b2,0,none⟩ k) b0 u0 u1 u2 u3 u4 ∧
      (((jex wf b0 u0 u1 u2 u3 u4).setCell ⟨b1,0,none⟩ a).setCell ⟨b2,0,none⟩ k).cell? ⟨b1,0,none⟩=some a ∧
      (((jex wf b0 u0 u1 u2 u3 u4).setCell ⟨b1,0,none⟩ a).setCell ⟨b2,0,none⟩ k).cell? ⟨b2,0,none⟩=some k ∧
      Below B w (((jex wf b0 u0 u1 u2 u3 u4).setCell ⟨b1,0,none⟩ a).setCell ⟨b2,0,none⟩ k) ∧
      ∀q:Addr,q.block≠b0→q.block≠b1→q.block≠b2→(((jex wf b0 u0 u1 u2 u3 u4).setCell ⟨b1,0,none⟩ a).setCell ⟨b2,0,none⟩ k).cell? q=wf.cell? q:=by
  have hF:=((jdw F0 u0 u1 u2 u3 u4).bt (Bt.set _ b1 0 a) h01).bt (Bt.set _ b2 0 k) h02;have hc1:(jex wf b0 u0 u1 u2 u3 u4).cell? ⟨b1,0,none⟩=some v1:=(jd1 h01.symm).trans F1;have hc2:(jex wf b0 u0 u1 u2 u3 u4).cell? ⟨b2,0,none⟩=some v2:=(jd1 h02.symm).trans F2;have hb5:=jaj (u0:=u0) (u1:=u1) (u2:=u2) (u3:=u3) (u4:=u4) hb hB0;have hq5:∀q:Addr,q.block≠b0→(jex wf b0 u0 u1 u2 u3 u4).cell? q=wf.cell? q:=fun q h=>jd1 h;obtain ⟨w5,hw5⟩:=jx (jex wf b0 u0 u1 u2 u3 u4);rw[hw5] at hF hc1 hc2 hb5 hq5 ⊢;have hne:∀{p:Addr} {q:Nat} {v:Value} {X:World},p.block≠q→(X.setCell ⟨q,0,none⟩ v).cell? p=X.cell? p:=fun h=>World.cell?_setCell_other _ _ _ _ (fun e=>h (congrArg Addr.block e).symm);have e1:=World.cell?_setCell_same _ _ a hc1;have e2:=World.cell?_setCell_same _ _ k ((hne (p:=⟨b2,0,none⟩) (v:=a) h12.symm).trans hc2);have hb6:=(hb5.setCell (p:=⟨b1,0,none⟩) hB1 a).setCell (p:=⟨b2,0,none⟩) hB2 k;exact ⟨hF.1,(hne (p:=⟨b1,0,none⟩) h12).trans e1,e2,hb6,fun q h0 h1 h2=>(hne h2).trans ((hne h1).trans (hq5 q h0))⟩
theorem put5_setl (wf:World) (b0 b1 b2:Nat) (u0 u1 u2 u3 u4 a k:Value):Below 0 wf (((jex wf b0 u0 u1 u2 u3 u4).setCell ⟨b1,0,none⟩ a).setCell ⟨b2,0,none⟩ k) :=
  ((jaj (Below.refl 0 wf) (Nat.zero_le _)).setCell (Nat.zero_le _) a).setCell (Nat.zero_le _) k
def OneF (w:World) (b:Nat) (v:Value):Prop:=b<w.heap.size∧w.cell? ⟨b,0,none⟩=some v∧w.frozen? ⟨b,0,none⟩=false
theorem oneF_new (w:World) (v:Value) (T:TypeId):OneF (w.alloc (.cells #[v] T)) w.heap.size v:=⟨by simp,by rw[World.cell?_alloc_mark];rfl,by rw[World.frozen?_alloc_mark];simp⟩
theorem OneF.keep {w w':World} {b:Nat} {v:Value} (h:OneF w b v) (hb:Below w.heap.size w w'):OneF w' b v:=⟨Nat.lt_of_lt_of_le h.1 hb.size,(hb.cell (p:=⟨b,0,none⟩) h.1).trans h.2.1,(hb.frozen (p:=⟨b,0,none⟩) h.1).trans h.2.2⟩
theorem OneF.bt {p:Nat} {w w':World} {b:Nat} {v:Value} (h:OneF w b v) (hb:Bt p w w') (hne:b≠p):OneF w' b v:=⟨Nat.lt_of_lt_of_le h.1 hb.size,(hb.cell (q:=⟨b,0,none⟩) h.1 hne).trans h.2.1,(hb.frozen (q:=⟨b,0,none⟩) h.1 hne).trans h.2.2⟩
theorem TkP.up {W:World} {p p':Nat} {A:Option Addr} {n c:Nat} {l:List Tk} (h:TkP W p A n c l) (hp:p≤p'):TkP W p' A n c l:=by
  obtain ⟨h1,h2,h3,h4⟩:=h;refine ⟨h1,h2,h3,fun i t ht=>?_⟩;obtain ⟨g,o,a1,a2,a3⟩:=h4 i t ht;exact ⟨g,o,a1,Nat.lt_of_lt_of_le a2 hp,a3⟩
theorem qs_new {W:World} {A:Option Addr} {n c:Nat} {T:List Tk} (h:TkS W A n c T) (hl:T.length≤600) (ht:∀(i:Nat) (t:Tk),T[i]?=some t→t.text.length≤100000) (hr:jad T=true) (len:Int) :
    QS (W.alloc (.cells #[.slice A n c,.int .i64 0,.int .i64 len] 74)) W.heap.size A n c len T 0 :=
  ⟨⟨heap_alloc_new W _,h.p.below (jak (Below.refl _ W) _)⟩,Nat.zero_le _,by have:=h.2.2.1;omega,ht,hr⟩
theorem QS.off {W W':World} {p b:Nat} {A:Option Addr} {n c:Nat} {len:Int} {T:List Tk} {j:Nat} (h:QS W p A n c len T j) (hb:Bt b W W') (hne:p≠b) (ht:TkP W' p A n c T):QS W' p A n c len T j :=
  ⟨⟨(hb.block p h.st.lt hne).trans h.st.1,ht⟩,h.ib,h.n6,h.tl,h.rt⟩
theorem jln {fn:Func} {p q r:Tmp} (h:fn.results=#[.cell p 25,.cell q 3,.cell r 26]) (tmps:Array Value) (W:World) (b b1 b2:Nat) (c0 c1 c2 c3 c4 z z':Value) (hp:tmps.getD p undef=.pointer (some ⟨b,0,none⟩)) (hq:tmps.getD q undef=.pointer (some ⟨b1,0,none⟩)) (hr:tmps.getD r undef=.pointer (some ⟨b2,0,none⟩)) (hf:FiveN W b c0 c1 c2 c3 c4)
    (h1:W.cell? ⟨b1,0,none⟩=some z) (h2:W.cell? ⟨b2,0,none⟩=some z'):(results fn tmps).run Tryz.prog W=.ok (.tuple #[.agg #[c0,c1,c2,c3,c4],z,z']) W:=by
  (have hp':tmps[p]?.getD undef=.pointer (some ⟨b,0,none⟩):=by simpa using hp);(have hq':tmps[q]?.getD undef=.pointer (some ⟨b1,0,none⟩):=by simpa using hq);(have hr':tmps[r]?.getD undef=.pointer (some ⟨b2,0,none⟩):=by simpa using hr);(have l1:(loadVar 3 ⟨b1,0,none⟩).run Tryz.prog W=.ok z W:=by go_simp);(have l2:(loadVar 26 ⟨b2,0,none⟩).run Tryz.prog W=.ok z' W:=by go_simp);simp[results,h,hp',hq',hr',asAddr,jil hf,l1,l2,Result.andThen]
set_option maxHeartbeats 12800000 in
theorem qtop (N:Nat) (hcf:∀(xs:Array Value) (W:World),(callFunc N xs).run Tryz.prog W=.ok (.enter N xs) W) {A:Option Addr} {n c:Nat} {len:Int} {T:List Tk} (W:World) (ht:TkS W A n c T) (hl:T.length≤600)
    (htl:∀(i:Nat) (t:Tk),T[i]?=some t→t.text.length≤100000) (hrt:jad T=true) (o:Oc Nd) (hgo:∀(X:World) (p:Nat),QS X p A n c len T 0→Calls Tryz.prog N #[.pointer (some ⟨p,0,none⟩)] X (jgh p A n c len T X 0 o)) :
    Calls Tryz.prog 33 #[.func (.func N) #[] #[],.slice A n c,.int .i64 len] W (jn7 W (topO T len o)):=by
  have hmf:∀(fn:Fn) (first cap:Array Value) (w:World),(Instr.makeFunc fn first cap).run Tryz.prog w=.ok (.func fn first cap) w:=fun _ _ _ _=>rfl;have hF0:=jae W (.int .i64 0) (.string ⟨#[]⟩) (.int .i64 0) (.int .i64 0) (.slice none 0 0) 25;have ha:=jak (Below.refl _ (W.alloc (.cells #[.int .i64 0,.string ⟨#[]⟩,.int .i64 0,.int .i64 0,.slice none 0 0] 25))) (.cells #[.int .i64 0] 3);have hC1:=oneF_new (W.alloc (.cells #[.int .i64 0,.string ⟨#[]⟩,.int .i64 0,.int .i64 0,.slice none 0 0] 25)) (.int .i64 0) 3;have hb:=jak (Below.refl _ ((W.alloc (.cells #[.int .i64 0,.string ⟨#[]⟩,.int .i64 0,.int .i64 0,.slice none 0 0] 25)).alloc (.cells #[.int .i64 0] 3))) (.cells #[.int .i64 0] 26);have hC2:=oneF_new ((W.alloc (.cells #[.int .i64 0,.string ⟨#[]⟩,.int .i64 0,.int .i64 0,.slice none 0 0] 25)).alloc (.cells #[.int .i64 0] 3)) (.int .i64 0) 26;have hc:=jak (Below.refl _ (((W.alloc (.cells #[.int .i64 0,.string ⟨#[]⟩,.int .i64 0,.int .i64 0,.slice none 0 0] 25)).alloc (.cells #[.int .i64 0] 3)).alloc (.cells #[.int .i64 0] 26))) (.cells #[.slice A n c,.int .i64 0,.int .i64 len] 74);have hbW:Below W.heap.size W (((W.alloc (.cells #[.int .i64 0,.string ⟨#[]⟩,.int .i64 0,.int .i64 0,.slice none 0 0] 25)).alloc (.cells #[.int .i64 0] 3)).alloc (.cells #[.int .i64 0] 26)):=jak (jak (jak (Below.refl _ W) _) _) _;have hQ:=qs_new (ht.below hbW) hl htl hrt len;(have s1:(W.alloc (.cells #[.int .i64 0,.string ⟨#[]⟩,.int .i64 0,.int .i64 0,.slice none 0 0] 25)).heap.size=W.heap.size+1:=by simp);(have s2:((W.alloc (.cells #[.int .i64 0,.string ⟨#[]⟩,.int .i64 0,.int .i64 0,.slice none 0 0] 25)).alloc (.cells #[.int .i64 0] 3)).heap.size=W.heap.size+1+1:=by simp);(have s3:(((W.alloc (.cells #[.int .i64 0,.string ⟨#[]⟩,.int .i64 0,.int .i64 0,.slice none 0 0] 25)).alloc (.cells #[.int .i64 0] 3)).alloc (.cells #[.int .i64 0] 26)).heap.size=W.heap.size+1+1+1:=by simp);have hF0:=((hF0.keep ha).keep hb).keep hc;have hC1:=(hC1.keep hb).keep hc;have hC2:=hC2.keep hc;have hB:=bgo hbW hc;rw[s1] at hC1;rw[s2] at hC2;rw[s3] at hQ;obtain ⟨w1,hw1⟩:=jx (((((W.alloc (.cells #[.int .i64 0,.string ⟨#[]⟩,.int .i64 0,.int .i64 0,.slice none 0 0] 25)).alloc (.cells #[.int .i64 0] 3)).alloc (.cells #[.int .i64 0] 26)).alloc (.cells #[.slice A n c,.int .i64 0,.int .i64 len] 74)));(have hsz:w1.heap.size=W.heap.size+1+1+1+1:=by rw[←hw1];simp);rw[hw1] at hF0 hC1 hC2 hQ hB;have F0:=jj hF0;have C1:=jj hC1;have C2:=jj hC2;have Q0:=jj hQ;have B0:=jj hB;have HW:=jj hw1;have HSz:=jj hsz;have HT:=jj (ht.p);have HGo:=jj (hgo w1 _ hQ);have HTl:=jj ht.2.2.1;clear hF0 hC1 hC2 hQ hB hw1 hsz ha hb hc hbW s1 s2 s3 ht htl hgo
  go_enter_defers Tryz.func33,Tryz.ntmps33
  go_wp2_with fail;rw[HW.out];clear HW;(with_reducible refine (HGo.out).mono ?_);rintro e w2 ⟨b2,hr2⟩;(have hp3:W.heap.size≤W.heap.size+1+1+1:=by omega);have B2:=jj (B0.out.trans (b2.up hp3 (by have:=HSz.out;omega)));have F2:=jj (F0.out.bt b2 (by omega));have C12:=jj (C1.out.bt b2 (by omega));have C22:=jj (C2.out.bt b2 (by omega))
  cases o with
  | error a =>
    obtain rfl:e=jbk a:=hr2;have HE:=jj (show topO T len (.error a)=(je8,a,11) from rfl);clear b2 B0 F0 C1 C2 Q0 HGo;unfold jbk;go_wp2_with fail;refine leaves_cons (f:=58) (args:=#[.pointer (some ⟨W.heap.size,0,none⟩),.pointer (some ⟨W.heap.size+1,0,none⟩),.pointer (some ⟨W.heap.size+1+1,0,none⟩)]) (by simp) (by simp[go_sem]) ?_;refine (catch_flt W.heap.size W.heap.size (W.heap.size+1) (W.heap.size+1+1) a 11 0 0 _ _ _ _ _ _ (Nat.le_refl _) (Nat.le_succ _) (by omega) (by omega) (by omega) (by omega) B2.out.size F2.out C12.out C22.out).mono ?_;rintro e u' w'' ⟨rfl,rfl,hf9,h91,h92,hb9⟩;exact ⟨_,jln rfl _ _ W.heap.size (W.heap.size+1) (W.heap.size+1+1) _ _ _ _ _ _ _ rfl rfl rfl hf9 h91 h92,by rw[HE.out];exact ⟨none,0,0,rfl,jc1 _ _ _ _,B2.out.trans hb9⟩⟩
  | ok z =>
    obtain ⟨x,j⟩:=z;obtain ⟨⟨qA,qm,qd,rfl,hv⟩,hs,-⟩:=hr2;dsimp only at hs hv;have HV:=jj (hv.wide (B':=W.heap.size+1+1+1+1) (by have:=HSz.out;omega));have QX:=jj hs;clear b2 hv hs B0 F0 C1 C2 Q0 HGo;obtain ⟨⟨-,x0,x1,x2,x3,x4⟩,g0,g1,g2,g3,g4⟩:=F2.out;go_upto_region 4 with fail;clear x0 x1 x2 x3 x4 g0 g1 g2 g3 g4;have hF3:=jdw F2.out (.int .i64 x.kind) (.string (bs x.text)) (.int .i64 x.at_) (.int .i64 x.en) (.slice qA qm qd);have hb3:=jmo w2 W.heap.size (.int .i64 x.kind) (.string (bs x.text)) (.int .i64 x.at_) (.int .i64 x.en) (.slice qA qm qd);have hB3:=jaj (u0:=.int .i64 x.kind) (u1:=.string (bs x.text)) (u2:=.int .i64 x.at_) (u3:=.int .i64 x.en) (u4:=.slice qA qm qd) B2.out (Nat.le_refl _);have hV3:=jnf (u0:=.int .i64 x.kind) (u1:=.string (bs x.text)) (u2:=.int .i64 x.at_) (u3:=.int .i64 x.en) (u4:=.slice qA qm qd) HV.out (show W.heap.size<W.heap.size+1+1+1+1 by omega) _ (Nat.le_refl _);obtain ⟨w3,hw3⟩:=jx (jex w2 W.heap.size (.int .i64 x.kind) (.string (bs x.text)) (.int .i64 x.at_) (.int .i64 x.en) (.slice qA qm qd));rw[hw3] at hF3 hb3 hB3 hV3;unfold jex at hw3;rw[hw3];have F3:=jj hF3;have B3:=jj hB3;have V3:=jj hV3;have C13:=jj (C12.out.bt hb3 (by omega));have C23:=jj (C22.out.bt hb3 (by omega));have Q3:=jj (QX.out.off hb3 (by omega) ((HT.out.below hB3).up (by omega)));have HEn:=jj (qended Q3.out);clear hF3 hb3 hB3 hV3 hw3 F2 B2 C12 C22 QX HV;go_wp2_with fail;(with_reducible refine (HEn.out).mono ?_);rintro e w4 ⟨rfl,hd4⟩;have F4:=jj (F3.out.keep (hd4.below _));have B4:=jj (B3.out.trans (hd4.below _));have V4:=jj (V3.out.kept (hd4.below _));have C14:=jj (C13.out.keep (hd4.below _));have C24:=jj (C23.out.keep (hd4.below _));have Q4:=jj (Q3.out.drawn hd4);clear hd4 F3 B3 V3 C13 C23 Q3 HEn;by_cases hj:T.length≤j
    · rw[decide_eq_true hj];obtain ⟨⟨-,x0,x1,x2,x3,x4⟩,-⟩:=F4.out;have HOn:=jj (show Calls Tryz.prog 43 #[.agg #[.int .i64 x.kind,.string (bs x.text),.int .i64 x.at_,.int .i64 x.en,.slice qA qm qd],.int .i64 13] w4 (GotD w4 (jhd 12 x)) from qonlevel 12 x w4 _ _ (by decide) V4.out);have HDe:=jj (deepY_at 12 x);go_wp2_with fail;(with_reducible refine (HOn.out).mono ?_);rintro e w5 ⟨b5,hr5⟩;have F5:=jj (F4.out.keep b5);have B5:=jj (B4.out.trans (b5.mono B4.out.size));have V5:=jj (V4.out.kept b5);have C15:=jj (C14.out.keep b5);have C25:=jj (C24.out.keep b5);clear b5 F4 B4 V4 C14 C24 Q4 x0 x1 x2 x3 x4
      cases hy:jhd 12 x with
      | some y =>
        rw[hy] at hr5;obtain ⟨yA,ym,yd,rfl⟩:=hr5
        have HE:=jj (show topO T len (.ok (x,j))=(je8,y.at_,4) by
          have h1:=HDe.out;rw[hy] at h1;unfold topO;dsimp only;rw[if_neg (by omega),←h1]
          rfl)
        have by_:=jak (Below.refl _ w5) (.cells #[.int .i64 y.kind,.string (bs y.text),.int .i64 y.at_,.int .i64 y.en,.slice yA ym yd] 25);have F6:=jj (F5.out.keep by_);have B6:=jj (B5.out.trans (by_.mono B5.out.size));have C16:=jj (C15.out.keep by_);have C26:=jj (C25.out.keep by_);clear by_ F5 B5 V5 C15 C25 hy;go_wp2;refine leaves_cons (f:=58) (args:=#[.pointer (some ⟨W.heap.size,0,none⟩),.pointer (some ⟨W.heap.size+1,0,none⟩),.pointer (some ⟨W.heap.size+1+1,0,none⟩)]) (by simp) (by simp[go_sem]) ?_;refine (catch_flt W.heap.size W.heap.size (W.heap.size+1) (W.heap.size+1+1) y.at_ 4 0 0 _ _ _ _ _ _ (Nat.le_refl _) (Nat.le_succ _) (by omega) (by omega) (by omega) (by omega) B6.out.size F6.out C16.out C26.out).mono ?_;rintro e u' w'' ⟨rfl,rfl,hf9,h91,h92,hb9⟩;exact ⟨_,jln rfl _ _ W.heap.size (W.heap.size+1) (W.heap.size+1+1) _ _ _ _ _ _ _ rfl rfl rfl hf9 h91 h92,by rw[HE.out];exact ⟨none,0,0,rfl,jc1 _ _ _ _,B6.out.trans hb9⟩⟩
      | none =>
        rw[hy] at hr5;obtain rfl:=hr5
        have HE:=jj (show topO T len (.ok (x,j))=(x,0,0) by
          have h1:=HDe.out;rw[hy] at h1;unfold topO;dsimp only;rw[if_neg (by omega),←h1]
          rfl)
        have by_:=jak (Below.refl _ w5) (.cells #[.int .i64 0,.string ⟨#[]⟩,.int .i64 0,.int .i64 0,.slice none 0 0] 25);have F6:=jj (F5.out.keep by_);have B6:=jj (B5.out.trans (by_.mono B5.out.size));have V6:=jj (V5.out.kept by_);have C16:=jj (C15.out.keep by_);have C26:=jj (C25.out.keep by_);clear by_ F5 B5 V5 C15 C25 hy;obtain ⟨⟨-,x0,x1,x2,x3,x4⟩,g0,g1,g2,g3,g4⟩:=F6.out;obtain ⟨-,y0,y1⟩:=C16.out;obtain ⟨-,z0,z1⟩:=C26.out;go_wp2;obtain ⟨G1,G2,G3,G4,G5⟩:=three_ok (.int .i64 x.kind) (.string (bs x.text)) (.int .i64 x.at_) (.int .i64 x.en) (.slice qA qm qd) (.int .i64 0) (.int .i64 0) (Nat.le_refl W.heap.size) (Nat.le_succ _) (show W.heap.size≤W.heap.size+1+1 by omega) (show W.heap.size≠W.heap.size+1 by omega) (show W.heap.size≠W.heap.size+1+1 by omega) (show W.heap.size+1≠W.heap.size+1+1 by omega) F6.out y0 z0 B6.out;have hs9:=G4.size;have hl1:=Nat.lt_of_lt_of_le C16.out.1 (show _≤_ from Below.size (B:=0) (put5_setl (w5.alloc (.cells #[.int .i64 0,.string ⟨#[]⟩,.int .i64 0,.int .i64 0,.slice none 0 0] 25)) W.heap.size (W.heap.size+1) (W.heap.size+1+1) (.int .i64 x.kind) (.string (bs x.text)) (.int .i64 x.at_) (.int .i64 x.en) (.slice qA qm qd) (.int .i64 0) (.int .i64 0)));have hl2:=Nat.lt_of_lt_of_le C26.out.1 (show _≤_ from Below.size (B:=0) (put5_setl (w5.alloc (.cells #[.int .i64 0,.string ⟨#[]⟩,.int .i64 0,.int .i64 0,.slice none 0 0] 25)) W.heap.size (W.heap.size+1) (W.heap.size+1+1) (.int .i64 x.kind) (.string (bs x.text)) (.int .i64 x.at_) (.int .i64 x.en) (.slice qA qm qd) (.int .i64 0) (.int .i64 0)));refine leaves_cons (f:=58) (args:=#[.pointer (some ⟨W.heap.size,0,none⟩),.pointer (some ⟨W.heap.size+1,0,none⟩),.pointer (some ⟨W.heap.size+1+1,0,none⟩)]) (by simp) (by simp[go_sem]) ?_;refine (catch_idle _ _ _ _).mono ?_;rintro e u' w'' ⟨rfl,rfl,hb9⟩;refine ⟨_,jln rfl _ _ W.heap.size (W.heap.size+1) (W.heap.size+1+1) _ _ _ _ _ _ _ rfl rfl rfl (G1.keep hb9) ((hb9.cell (p:=⟨W.heap.size+1,0,none⟩) hl1).trans G2) ((hb9.cell (p:=⟨W.heap.size+1+1,0,none⟩) hl2).trans G3),?_⟩;rw[HE.out];exact ⟨qA,qm,qd,rfl,(V6.out.map (fun q hq _=>G5 q (by omega) (by omega) (by omega)) (fun g hg _=>by show W.heap.size≤g;omega)).kept hb9,G4.trans (hb9.mono hs9)⟩
    · rw[decide_eq_false hj]
      have HE:=jj (show topO T len (.ok (x,j))=(je8,jaq T len ⟨j,none⟩,11) by
        unfold topO;dsimp only
        rw[if_pos (by omega)])
      have HUn:=jj (jgk Q4.out);go_wp2_with fail;(with_reducible refine (HUn.out).mono ?_);rintro e w5 ⟨rfl,b5⟩;have F5:=jj (F4.out.keep b5);have B5:=jj (B4.out.trans (b5.mono B4.out.size));have C15:=jj (C14.out.keep b5);have C25:=jj (C24.out.keep b5);clear b5 F4 B4 V4 C14 C24 Q4 HUn;go_wp2;refine leaves_cons (f:=58) (args:=#[.pointer (some ⟨W.heap.size,0,none⟩),.pointer (some ⟨W.heap.size+1,0,none⟩),.pointer (some ⟨W.heap.size+1+1,0,none⟩)]) (by simp) (by simp[go_sem]) ?_;refine (catch_flt W.heap.size W.heap.size (W.heap.size+1) (W.heap.size+1+1) (jaq T len ⟨j,none⟩) 11 0 0 _ _ _ _ _ _ (Nat.le_refl _) (Nat.le_succ _) (by omega) (by omega) (by omega) (by omega) B5.out.size F5.out C15.out C25.out).mono ?_;rintro e u' w'' ⟨rfl,rfl,hf9,h91,h92,hb9⟩;exact ⟨_,jln rfl _ _ W.heap.size (W.heap.size+1) (W.heap.size+1+1) _ _ _ _ _ _ _ rfl rfl rfl hf9 h91 h92,by rw[HE.out];exact ⟨none,0,0,rfl,jc1 _ _ _ _,B5.out.trans hb9⟩⟩
end
end Go.Proofs.YtonoklmobocikaaGreatDoor
