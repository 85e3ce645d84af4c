/- Lemmas. -/
import Derived.Test.YtonoklmobocikaaGreatDoorK41
import Derived.Test.YtonoklmobocikaaGreatDoorK43
set_option linter.unusedVariables false
set_option linter.unusedSimpArgs false
set_option maxRecDepth 20000
set_option maxHeartbeats 6400000
namespace Go.Proofs.YtonoklmobocikaaGreatDoor
section
open Go.RowKit
structure Side (W1:World) (L0:Nat) (W:World) (u:Value):Prop where
  size:W1.heap.size≤W.heap.size
  far:∀g,g<W1.heap.size→g≠L0→W.heap[g]?=W1.heap[g]?∧u.ownBlock≠some g
theorem Side.push {W1 w0 w':World} {L0:Nat} {v v':Value} (h:Side W1 L0 w0 v) (hf:Far w0 w' v v'):Side W1 L0 w' v' :=
  ⟨Nat.le_trans h.size hf.1,fun g hg hne=>by
    obtain ⟨h1,h2⟩:=h.far g hg hne
    obtain ⟨h3,h4⟩:=hf.2 g (Nat.lt_of_lt_of_le hg h.size) h2
    exact ⟨h3.trans h1,h4⟩⟩
theorem Side.cell {W1 W:World} {L0:Nat} {u:Value} (h:Side W1 L0 W u) {q:Addr} (hq:q.block<W1.heap.size) (hne:q.block≠L0):W.cell? q=W1.cell? q:=World.cell?_of_block (w:=W1) (h.far q.block hq hne).1
theorem Side.frozen {W1 W:World} {L0:Nat} {u:Value} (h:Side W1 L0 W u) {q:Addr} (hq:q.block<W1.heap.size) (hne:q.block≠L0):W.frozen? q=W1.frozen? q:=World.frozen?_of_block (w:=W1) (h.far q.block hq hne).1
theorem FiveF.side {W1 W:World} {L0 b:Nat} {u c0 c1 c2 c3 c4:Value} (h:FiveF W1 b c0 c1 c2 c3 c4) (hs:Side W1 L0 W u) (hne:b≠L0):FiveF W b c0 c1 c2 c3 c4:=by
  obtain ⟨⟨h0,h1,h2,h3,h4,h5⟩,f0,f1,f2,f3,f4⟩:=h;have key:∀k:Nat,W.cell? ⟨b,k,none⟩=W1.cell? ⟨b,k,none⟩:=fun k=>hs.cell (q:=⟨b,k,none⟩) h0 hne;have fkey:∀k:Nat,W.frozen? ⟨b,k,none⟩=W1.frozen? ⟨b,k,none⟩:=fun k=>hs.frozen (q:=⟨b,k,none⟩) h0 hne;exact ⟨⟨Nat.lt_of_lt_of_le h0 hs.size,(key _).trans h1,(key _).trans h2,(key _).trans h3,(key _).trans h4,(key _).trans h5⟩,(fkey _).trans f0,(fkey _).trans f1,(fkey _).trans f2,(fkey _).trans f3,(fkey _).trans f4⟩
theorem NdS.side {W1 W:World} {L0 B:Nat} {u:Value} {A:Option Addr} {m d:Nat} {l:List Nd} (h:NdS W1 (fun g=>B≤g) A m d l) (hs:Side W1 L0 W u) (hB:L0<B):NdS W (fun g=>B≤g) A m d l :=
  h.map (fun q hq hlt=>hs.cell hlt (by omega)) fun _ h _=>h
theorem NdV.side {W1 W:World} {L0 B:Nat} {u v:Value} {r:Nd} (h:NdV W1 (fun g=>B≤g) v r) (hs:Side W1 L0 W u) (hB:L0<B):NdV W (fun g=>B≤g∧u.ownBlock≠some g) v r :=
  h.map (fun q hq hlt=>hs.cell hlt (by omega)) fun g hg hlt=>⟨hg,(hs.far g hlt (by omega)).2⟩
section
variable {p:Nat} {A:Option Addr} {n c:Nat} {len:Int} {T:List Tk} {f:Nat}
set_option maxHeartbeats 25600000 in
theorem c_unary (ih:IH p A n c len T f) {s s':Ps} {x:Nd} (h:jhp T len (jaw T len f) s=some (x,s')):CN p A n c len T s x s' .unary:=by
  intro W hrs;obtain ⟨i0,hi0,hz0,hz1,hz2⟩:=info_parts jfd;have hn6:=hrs.n6;unfold jhp at h;have HI1:=jj (fun X (hX:RS X p A n c len T s)=>ris hX 5 (by decide) [33] ⟨#[33]⟩ rfl);have HI2:=jj (fun X (hX:RS X p A n c len T s)=>ris hX 5 (by decide) [45] ⟨#[45]⟩ rfl)
  cases hq1:isP T 5 [33] s with
  | true =>
    rw[if_pos (Or.inl hq1)] at h;rw[hq1] at HI1;obtain ⟨y,s2,h1,h2⟩:=ja2.1 h;obtain ⟨rfl,rfl⟩:=jap h2;obtain ⟨r,hr⟩:=jx (jai T len 5 s);have HT:=jj (fun X (hX:RS X p A n c len T s)=>jiy hX 5 (by decide));rw[hr] at HT h1 ⊢;have HX:=jj (fun X hX=>ih _ _ _ _ h1 X hX);clear hr;have h0:=RW.start hrs;obtain ⟨w0,hw0⟩:=jx (W.alloc (.cells #[.int .i64 0,.string ⟨#[]⟩,.int .i64 0,.int .i64 0,.slice none 0 0] 25));rw[hw0] at h0;have G0:=jj h0;have HW:=jj hw0;have HPL:=jj (show p<W.heap.size+1 by have:=hrs.st.lt;omega);clear h0 hw0;clear hrs h h1 h2 hq1;go_enter Tryz.func74,Tryz.ntmps74;go_wp2_with fail;rw[HW.out];clear HW;(with_reducible refine (jha G0.out.rs).mono ?_);rintro e w1 ⟨rfl,hd1⟩;have G1:=jj (G0.out.drawn hd1);clear hd1 G0;go_wp2_with fail;(with_reducible refine (HI1.out _ G1.out.rs).mono ?_);rintro e w2 ⟨rfl,hd2⟩;have G2:=jj (G1.out.drawn hd2);clear hd2 G1;go_wp2_with fail;(with_reducible refine (HT.out _ G2.out.rs).mono ?_);rintro e w3 ⟨rfl,h3,b3⟩;have G3:=jj (G2.out.next h3 b3);clear h3 b3 G2;go_wp2_with fail;(with_reducible refine (HX.out _ G3.out.rs).mono ?_);intro e w4 h4;have b4:=h4.bt;obtain ⟨qA4,qm4,qd4,rfl,hv4,hw4⟩:=h4.new G3.out;clear h4;have G4:=jj hw4;have V1:=jj hv4;clear b4 hv4 hw4 G3;go_upto_region 5 with fail;have bl5:=jak (Below.refl _ w4) (.cells #[.int .i64 y.kind,.string (bs y.text),.int .i64 y.at_,.int .i64 y.en,.slice qA4 qm4 qd4] 25);have hF5:=jae w4 (.int .i64 y.kind) (.string (bs y.text)) (.int .i64 y.at_) (.int .i64 y.en) (.slice qA4 qm4 qd4) 25;have NE5:=jj (show w4.heap.size≠p by have:=G4.out.size;have:=G4.out.lt;omega);obtain ⟨w5,hw5⟩:=jx (w4.alloc (.cells #[.int .i64 y.kind,.string (bs y.text),.int .i64 y.at_,.int .i64 y.en,.slice qA4 qm4 qd4] 25));rw[hw5] at bl5 hF5 ⊢;clear hw5;have G5:=jj (G4.out.keep bl5);have V2:=jj (V1.out.kept bl5);clear V1;have F5:=jj hF5;clear bl5 hF5 G4;obtain ⟨⟨-,y00,y01,y02,y03,y04⟩,-⟩:=F5.out;go_wp2_with fail;have HO:=jj (jjc (w:=w5) (B:=W.heap.size+1) G5.out.size V2.out w5.heap.size rfl);(with_reducible refine (jew (G5.out.more _).rs 22 (jaq T len s) (bs r.1) _ 1 1).mono ?_);rintro e w6 ⟨rfl,b6⟩;have G6:=jj ((G5.out.more _).keep b6);have HO2:=jj (HO.out.below b6);clear b6 G5 HO;obtain ⟨⟨-,x0,x1,x2,x3,x4⟩,g0,g1,g2,g3,g4⟩:=G6.out.box;go_wp2;exact bodyPost_ret (jag rfl _ _ W.heap.size _ _ _ _ _ rfl (ja3 G6.out.box _ _ _ _ _)) rfl (G6.out.fin (HO2.out.node _ _ _ _))
  | false =>
  cases hq2:isP T 5 [45] s with
  | true =>
    rw[if_pos (Or.inr hq2)] at h;rw[hq1] at HI1;rw[hq2] at HI2;obtain ⟨y,s2,h1,h2⟩:=ja2.1 h;obtain ⟨rfl,rfl⟩:=jap h2;obtain ⟨r,hr⟩:=jx (jai T len 5 s);have HT:=jj (fun X (hX:RS X p A n c len T s)=>jiy hX 5 (by decide));rw[hr] at HT h1 ⊢;have HX:=jj (fun X hX=>ih _ _ _ _ h1 X hX);clear hr;have h0:=RW.start hrs;obtain ⟨w0,hw0⟩:=jx (W.alloc (.cells #[.int .i64 0,.string ⟨#[]⟩,.int .i64 0,.int .i64 0,.slice none 0 0] 25));rw[hw0] at h0;have G0:=jj h0;have HW:=jj hw0;have HPL:=jj (show p<W.heap.size+1 by have:=hrs.st.lt;omega);clear h0 hw0;clear hrs h h1 h2 hq1 hq2;go_enter Tryz.func74,Tryz.ntmps74;go_wp2_with fail;rw[HW.out];clear HW;(with_reducible refine (jha G0.out.rs).mono ?_);rintro e w1 ⟨rfl,hd1⟩;have G1:=jj (G0.out.drawn hd1);clear hd1 G0;go_wp2_with fail;(with_reducible refine (HI1.out _ G1.out.rs).mono ?_);rintro e w2 ⟨rfl,hd2⟩;have G2:=jj (G1.out.drawn hd2);clear hd2 G1;go_wp2_with fail;(with_reducible refine (HI2.out _ G2.out.rs).mono ?_);rintro e w3 ⟨rfl,hd3⟩;have G3:=jj (G2.out.drawn hd3);clear hd3 G2;go_wp2_with fail;(with_reducible refine (HT.out _ G3.out.rs).mono ?_);rintro e w4 ⟨rfl,h4,b4⟩;have G4:=jj (G3.out.next h4 b4);clear h4 b4 G3;go_wp2_with fail;(with_reducible refine (HX.out _ G4.out.rs).mono ?_);intro e w5 h5;have b5:=h5.bt;obtain ⟨qA5,qm5,qd5,rfl,hv5,hw5⟩:=h5.new G4.out;clear h5;have G5:=jj hw5;have V1:=jj hv5;clear b5 hv5 hw5 G4;go_upto_region 5 with fail;have bl6:=jak (Below.refl _ w5) (.cells #[.int .i64 y.kind,.string (bs y.text),.int .i64 y.at_,.int .i64 y.en,.slice qA5 qm5 qd5] 25);have hF6:=jae w5 (.int .i64 y.kind) (.string (bs y.text)) (.int .i64 y.at_) (.int .i64 y.en) (.slice qA5 qm5 qd5) 25;have NE6:=jj (show w5.heap.size≠p by have:=G5.out.size;have:=G5.out.lt;omega);obtain ⟨w6,hw6⟩:=jx (w5.alloc (.cells #[.int .i64 y.kind,.string (bs y.text),.int .i64 y.at_,.int .i64 y.en,.slice qA5 qm5 qd5] 25));rw[hw6] at bl6 hF6 ⊢;clear hw6;have G6:=jj (G5.out.keep bl6);have V2:=jj (V1.out.kept bl6);clear V1;have F6:=jj hF6;clear bl6 hF6 G5;obtain ⟨⟨-,y00,y01,y02,y03,y04⟩,-⟩:=F6.out;go_wp2_with fail;have HO:=jj (jjc (w:=w6) (B:=W.heap.size+1) G6.out.size V2.out w6.heap.size rfl);(with_reducible refine (jew (G6.out.more _).rs 22 (jaq T len s) (bs r.1) _ 1 1).mono ?_);rintro e w7 ⟨rfl,b7⟩;have G7:=jj ((G6.out.more _).keep b7);have HO2:=jj (HO.out.below b7);clear b7 G6 HO;obtain ⟨⟨-,x0,x1,x2,x3,x4⟩,g0,g1,g2,g3,g4⟩:=G7.out.box;go_wp2;exact bodyPost_ret (jag rfl _ _ W.heap.size _ _ _ _ _ rfl (ja3 G7.out.box _ _ _ _ _)) rfl (G7.out.fin (HO2.out.node _ _ _ _))
  | false =>
    rw[if_neg (by rw[hq1,hq2];simp)] at h;rw[hq1] at HI1;rw[hq2] at HI2;obtain ⟨q0,s1,h1,h2⟩:=ja2.1 h;have HX0:=jj (fun X hX=>ih _ _ _ _ h1 X hX);have HR:=jj h2;have h0:=RW.start hrs;obtain ⟨w0,hw0⟩:=jx (W.alloc (.cells #[.int .i64 0,.string ⟨#[]⟩,.int .i64 0,.int .i64 0,.slice none 0 0] 25));rw[hw0] at h0;have G0:=jj h0;have HW:=jj hw0;have HPL:=jj (show p<W.heap.size+1 by have:=hrs.st.lt;omega);clear h0 hw0;clear hrs h h1 h2 hq1 hq2;go_enter Tryz.func74,Tryz.ntmps74;go_wp2_with fail;rw[HW.out];clear HW;(with_reducible refine (jha G0.out.rs).mono ?_);rintro e w1 ⟨rfl,hd1⟩;have G1:=jj (G0.out.drawn hd1);clear hd1 G0;go_wp2_with fail;(with_reducible refine (HI1.out _ G1.out.rs).mono ?_);rintro e w2 ⟨rfl,hd2⟩;have G2:=jj (G1.out.drawn hd2);clear hd2 G1;go_wp2_with fail;(with_reducible refine (HI2.out _ G2.out.rs).mono ?_);rintro e w3 ⟨rfl,hd3⟩;have G3:=jj (G2.out.drawn hd3);clear hd3 G2;go_wp2_with fail;(with_reducible refine (HX0.out _ G3.out.rs).mono ?_);intro e w4 h4;have b4:=h4.bt;obtain ⟨qA4,qm4,qd4,rfl,hv4,hw4⟩:=h4.new G3.out;clear h4;have G4:=jj hw4;have V1:=jj hv4;clear b4 hv4 hw4 G3;have HQ0:=jj (V1.out.map (fun _ _ _=>rfl) (fun g hg hlt=>(⟨hg,Nat.ne_of_lt hlt⟩:W.heap.size+1≤g∧g≠w4.heap.size)));clear V1;have SZb:=jj (show W.heap.size+1≤w4.heap.size from G4.out.size)
    skip
    go_wp2_with fail;have bl:=jak (Below.refl _ w4) (.cells #[.int .i64 q0.kind,.string (bs q0.text),.int .i64 q0.at_,.int .i64 q0.en,.slice qA4 qm4 qd4] 25);have hF:=jae w4 (.int .i64 q0.kind) (.string (bs q0.text)) (.int .i64 q0.at_) (.int .i64 q0.en) (.slice qA4 qm4 qd4) 25;have HNE:=jj (show w4.heap.size≠p by have:=G4.out.size;have:=G4.out.lt;omega);obtain ⟨w10,hw10⟩:=jx (w4.alloc (.cells #[.int .i64 q0.kind,.string (bs q0.text),.int .i64 q0.at_,.int .i64 q0.en,.slice qA4 qm4 qd4] 25));rw[hw10] at bl hF ⊢;clear hw10;have G10:=jj (G4.out.keep bl);have F10:=jj hF;have V10:=jj (HQ0.out.kept bl);(have hbk:p<w4.heap.size:=by have:=G4.out.lt;have:=SZb.out;omega);clear bl hF G4 HQ0;obtain ⟨bx,hbx⟩:=jx (w4.heap.size);rw[hbx] at F10 V10 HNE hbk ⊢;have HBX:=jj (show W.heap.size+1≤bx by rw[←hbx];exact SZb.out);clear hbx
    go_loopw [] (fun wr=>∃(q:Nd) (B:Option Addr) (m d:Nat) (sc:Ps) (g:Nat),FiveF wr bx (.int .i64 q.kind) (.string (bs q.text)) (.int .i64 q.at_) (.int .i64 q.en) (.slice B m d)∧NdV wr (fun g=>W.heap.size+1≤g∧g≠bx) (.agg #[.int .i64 q.kind,.string (bs q.text),.int .i64 q.at_,.int .i64 q.en,.slice B m d]) q∧RW p A n c len T W wr sc∧g≤f∧jaw T len g (.postRest q) sc=some (x,s')) (fun wr=>jdt p n wr)
    case atStart=>exact ⟨q0,_,_,_,s1,f,F10.out,V10.out,G10.out,Nat.le_refl _,HR.out⟩
    case round =>
      clear G10 F10 V10 HR;obtain ⟨q,B,m,d,sc,g,hF,hV,hw,hg,hr⟩:=hrel;obtain ⟨wo,hwo⟩:∃wo,wo=wr:=⟨wr,rfl⟩;subst hwo
      cases g with
      | zero=>cases hr
      | succ g =>
      have hr:jkb T len (jaw T len g) q sc=some (x,s'):=hr;unfold jkb at hr;have Hleft:=jj hw.rs.left;have G0:=jj hw;have F0:=jj hF;have V0:=jj hV;have F0sz:=jj hF.1.1;(have hgf:g≤f:=by omega);obtain ⟨k0,k1,k2,k3,k4⟩:=hw.rs.cells;clear hF hV hw
      cases hb:sc.bad with
      | some bb =>
        rw[if_pos (by rw[hb];rfl)] at hr;obtain ⟨rfl,rfl⟩:=jap hr;rw[hb] at k3 k4;simp only[Option.isSome] at k3;clear hr hb;obtain ⟨⟨-,y0,y1,y2,y3,y4⟩,-⟩:=F0.out;obtain ⟨⟨-,x0,x1,x2,x3,x4⟩,g0,g1,g2,g3,g4⟩:=G0.out.box;go_wp2;exact bodyPost_ret (jag rfl _ _ W.heap.size _ _ _ _ _ rfl (ja3 G0.out.box _ _ _ _ _)) rfl (G0.out.fin (V0.out.map (fun _ _ _=>rfl) fun g hg _=>hg.1))
      | none =>
        rw[if_neg (by rw[hb];decide)] at hr;rw[hb] at k3 k4;simp only[Option.isSome] at k3;have Hb:=jj hb;clear hb
        cases hqd:isP T 5 [46] sc with
        | true =>
          rw[hqd,if_pos rfl] at hr;obtain ⟨r,hrr⟩:=jx (jai T len 1 (jbb sc));have HT:=jj (fun X (hX:RS X p A n c len T (jbb sc))=>jiy hX 1 (by decide));have Hadv:=jj ((jfj (by decide) hqd).trans (jdq (T:=T) (len:=len) (k:=1) (by decide) (jbb sc)));rw[hrr] at HT hr Hadv;have HQ:=jj (show jaw T len g (.postRest (je3 T 19 r.1 q.at_ [q] r.2)) r.2=some (x,s') from hr);clear hr hrr;go_wp2_with fail;have HS:=jj (jcu G0.out.rs 5 (by decide) [46] ⟨#[46]⟩ rfl);rw[hqd,show jbu T 5 [46] sc=jbb sc by unfold jbu;rw[hqd];rfl] at HS;(with_reducible refine (HS.out).mono ?_);rintro e w21 ⟨rfl,h21,b21⟩;have G21:=jj (G0.out.next h21 b21);have V1:=jj (F0.out.bt b21 HNE.out);clear F0;have V2:=jj (V0.out.bt b21 (fun g hg=>by have:=HPL.out;omega));clear V0;clear h21 b21 G0;clear HS hqd k0 k1 k2 k3 k4;go_wp2_with fail;(with_reducible refine (HT.out _ G21.out.rs).mono ?_);rintro e w22 ⟨rfl,h22,b22⟩;have G22:=jj (G21.out.next h22 b22);have V3:=jj (V1.out.bt b22 HNE.out);clear V1;have V4:=jj (V2.out.bt b22 (fun g hg=>by have:=HPL.out;omega));clear V2;clear h22 b22 G21;obtain ⟨⟨-,y00,y01,y02,y03,y04⟩,-⟩:=V3.out;go_wp2_with fail;have HOQ:=jj (jmw (w:=w22) (B:=W.heap.size+1) (q:=fun g=>W.heap.size+1≤g∧g≠bx) G22.out.size V4.out w22.heap.size rfl);have HSZK:=jj (show bx<w22.heap.size from V3.out.1.1);(with_reducible refine (jew (G22.out.more _).rs 19 q.at_ (bs r.1) _ 1 1).mono ?_);rintro e w23 ⟨rfl,b23⟩;have G23:=jj ((G22.out.more _).keep b23);have HO2:=jj (HOQ.out.below b23);have hbb:=bgo (jak (Below.refl _ w22) (.cells #[.int .i64 q.kind,.string (bs q.text),.int .i64 q.at_,.int .i64 q.en,.slice B m d] 25)) b23;have FB:=jj (V3.out.keep hbb);clear b23 hbb G22 HOQ;obtain ⟨⟨-,x0,x1,x2,x3,x4⟩,g0,g1,g2,g3,g4⟩:=FB.out;go_wp2;have Hl2:=jj (RS.left (G23.out.push (jaj (Below.refl (W.heap.size+1) w23) HBX.out) (W':=jex w23 bx (.int .i64 19) (.string (bs r.1)) (.int .i64 q.at_) (.int .i64 (jao T r.2)) (.slice (some ⟨w22.heap.size,0,none⟩) 1 1))).rs);go_roundw
          case rel =>
            refine ⟨je3 T 19 r.1 q.at_ [q] r.2,some ⟨w22.heap.size,0,none⟩,1,1,r.2,g,jdw FB.out _ _ _ _ _,NdV.put (HO2.out.node _ (fun _ h=>h) (fun g h e=>⟨h,?_⟩) _ _ _ _),G23.out.push (jaj (Below.refl (W.heap.size+1) w23) HBX.out),hgf,HQ.out⟩;simp only[Value.ownBlock,Option.some.injEq] at e;have:=HSZK.out;omega
          case measure =>
            show jdt p n (jex w23 bx _ _ _ _ _)<jdt p n _;rw[Hl2.out,Hleft.out];exact Hadv.out.lt (by rw[Hb.out];rfl)
        | false =>
          rw[hqd,if_neg (by decide)] at hr
          cases hqp:isP T 5 [40] sc with
          | true =>
            rw[hqp,if_pos rfl] at hr;obtain ⟨a,s2,h3,h4⟩:=ja2.1 hr;have HX:=jj (fun X hX=>ih _ _ _ _ (jef h3 hgf) X hX);have Hadv:=jj ((jfj (by decide) hqp).trans ((jep h3).2 rfl));have HQ:=jj h4;clear hr h3 h4;go_wp2_with fail;have HS:=jj (jcu G0.out.rs 5 (by decide) [46] ⟨#[46]⟩ rfl);rw[hqd,show jbu T 5 [46] sc=sc by unfold jbu;rw[hqd];rfl] at HS;(with_reducible refine (HS.out).mono ?_);rintro e w21 ⟨rfl,h21,b21⟩;have G21:=jj (G0.out.next h21 b21);have V1:=jj (F0.out.bt b21 HNE.out);clear F0;have V2:=jj (V0.out.bt b21 (fun g hg=>by have:=HPL.out;omega));clear V0;clear h21 b21 G0;clear HS hqd k0 k1 k2 k3 k4;go_wp2_with fail;have HS:=jj (jcu G21.out.rs 5 (by decide) [40] ⟨#[40]⟩ rfl);rw[hqp,show jbu T 5 [40] sc=jbb sc by unfold jbu;rw[hqp];rfl] at HS;(with_reducible refine (HS.out).mono ?_);rintro e w22 ⟨rfl,h22,b22⟩;have G22:=jj (G21.out.next h22 b22);have V3:=jj (V1.out.bt b22 HNE.out);clear V1;have V4:=jj (V2.out.bt b22 (fun g hg=>by have:=HPL.out;omega));clear V2;clear h22 b22 G21;clear HS hqp;obtain ⟨⟨-,y00,y01,y02,y03,y04⟩,-⟩:=V3.out;go_wp2_with fail;have HOQ:=jj (jmw (w:=w22) (B:=W.heap.size+1) (q:=fun g=>W.heap.size+1≤g∧g≠bx) G22.out.size V4.out w22.heap.size rfl);have bl:=jak (Below.refl _ w22) (.cells #[.int .i64 q.kind,.string (bs q.text),.int .i64 q.at_,.int .i64 q.en,.slice B m d] 25);(have hsl:w22.heap.size<(w22.alloc (.cells #[.int .i64 q.kind,.string (bs q.text),.int .i64 q.at_,.int .i64 q.en,.slice B m d] 25)).heap.size:=by simp);obtain ⟨w30,hw30⟩:=jx (w22.alloc (.cells #[.int .i64 q.kind,.string (bs q.text),.int .i64 q.at_,.int .i64 q.en,.slice B m d] 25));rw[hw30] at HOQ bl hsl ⊢;clear hw30;have G30:=jj (G22.out.keep bl);have F30:=jj (V3.out.keep bl);have HL0:=jj (show bx<w22.heap.size from V3.out.1.1);have HSL:=jj hsl;obtain ⟨L0,hL0⟩:=jx (w22.heap.size);rw[hL0] at HL0 HOQ HSL ⊢;clear bl G22 V3 V4 y00 y01 y02 y03 y04 hsl hL0;(with_reducible refine (HX.out _ G30.out.rs).mono ?_);rintro e w31 ⟨aA,am,ad,rfl,ho31,hl31,h31,b31⟩;have G31:=jj (G30.out.next h31 b31);have F31:=jj (F30.out.bt b31 HNE.out);have R31:=jj (HOQ.out.btq b31 HPL.out (fun g hg=>by have:=HPL.out;omega));have N31:=jj ho31.sl;have HLA:=jj hl31;have HAK:=jj ho31.sl.len;have had:=ho31.sl.len.2.1;have had2:=ho31.sl.len.2.2;have HS31:=jj (show L0<w31.heap.size from Nat.lt_of_lt_of_le HSL.out b31.size);clear ho31 hl31 h31 b31 G30 F30 HOQ HX;(have ham:am≤2000002:=by have:=HAK.out.1;have:=HLA.out;omega);go_wp2_with fail
            go_loopw [8,10] (fun u v wr=>∃i:Nat,i≤am∧v=.int .i64 (i:Int)∧OwnQ wr (W.heap.size+1) (fun g=>W.heap.size+1≤g∧g≠bx) u (q :: a.kids.take i)∧Side w31 L0 wr u∧Below (W.heap.size+1) w31 wr) (fun _ v _=>am - (intOf v).toNat)
            case atStart=>exact ⟨0,Nat.zero_le _,rfl,R31.out,⟨Nat.le_refl _,fun g _ hne=>⟨rfl,by simp only[Value.ownBlock,ne_eq,Option.some.injEq];omega⟩⟩,Below.refl _ _⟩
            case round =>
              obtain ⟨i,hi,rfl,ho2,hsd,hbl⟩:=hrel;obtain ⟨wo2,hwo2⟩:∃wo2,wo2=wr:=⟨wr,rfl⟩;subst hwo2;obtain ⟨A2,m2,d2,vs2,rfl,-,-,-⟩:=ho2.s (fun _=>True) (fun _ _=>trivial) (fun _ _ _=>trivial);have HSd:=jj hsd;have HO2:=jj ho2;have HBl:=jj hbl;have HSZ2:=jj (show W.heap.size+1≤wo2.heap.size from Nat.le_trans G31.out.size hsd.size);have HPk:=jj (N31.out.side hsd HSL.out);have HIL:=jj (show (q :: a.kids.take i).length≤2000003 by rw[List.length_cons,List.length_take];omega);clear hsd ho2 hbl;by_cases hlt:i<am
              · (have hlti:(i:Int)<(am:Int):=by omega);obtain ⟨g3,o3,y,q3,r3,t3,rfl,hy,hv,e0,e1,e2,e3,e4⟩:=HPk.out.tree hlt;obtain ⟨g4,o4,y',q4,r4,t4,he,hy',hv',e0',e1',e2',e3',e4'⟩:=N31.out.tree hlt;cases he;(have e5:y'=y:=by rw[hy] at hy';injection hy' with hy';exact hy'.symm);subst e5
                have e6:(⟨q4,r4,t4⟩:Option Addr × Nat × Nat)=⟨q3,r3,t3⟩:=by
                  have hblk:=World.block_lt_of_cell? _ _ e4';have hgB:=HPk.out
                  have h1:=(HSd.out.cell (q:=⟨g3,o3+i*5+4,none⟩) hblk (by
                    obtain ⟨vs,hvs,hll,-⟩:=N31.out;obtain ⟨gg,oo,-,-,-,-,-,hA,hok,-⟩:=hvs.2.2.2 i _ (List.getElem?_eq_getElem (by rw[hvs.2.2.1];exact hlt));cases hA;have:=HSL.out;show g3≠L0
                    omega)).trans e4'
                  rw[e4] at h1;injection h1 with h1;injection h1 with h1 h2 h3;rw[h1,h2,h3]
                cases e6;have HV:=jj ((hv'.side HSd.out HSL.out).map (fun _ _ _=>rfl) (fun g hg _=>(⟨⟨by have:=HSL.out;have:=HL0.out;have:=HBX.out;have:=hg.1;omega,by have:=HSL.out;have:=HL0.out;have:=hg.1;omega⟩,hg.2⟩:(W.heap.size+1≤g∧g≠bx)∧(Value.slice A2 m2 d2).ownBlock≠some g)));have HTk:=jj (take_nd hy);clear hy hv hy' hv' e0' e1' e2' e3' e4' HPk;go_wp2_with (at_builtin;refine je7 rfl (.tmp 59) (.tmp 64) 23 rfl i0 _ 64 Tryz.underlying23 hi0 hz0 hz1 hz2 rfl (W.heap.size+1) (fun g=>W.heap.size+1≤g∧g≠bx) (.slice A2 m2 d2) (q :: a.kids.take i) rfl wo2 _ _ _ _ _ y' HO2.out HSZ2.out _ rfl rfl HV.out (by have:=HIL.out;omega) (by have:=HIL.out;unfold maxLen;omega) ?_);intro v' w' ho' hb' hf';have HO3:=jj ho';have HS3:=jj (HSd.out.push hf');have HB3:=jj (HBl.out.trans hb');clear ho' hb' hf';go_wp2;go_roundw
                case rel=>exact ⟨i+1,by omega,by go_num,by rw[←HTk.out,←List.cons_append];exact HO3.out,HS3.out,HB3.out⟩
                case measure=>simp[intOf];omega
              · (have hlti:¬(i:Int)<(am:Int):=by omega);rw[show a.kids.take i=a.kids from List.take_of_length_le (by rw[HAK.out.1];omega)] at HO2 HIL;have G40:=jj (G31.out.push HBl.out);have F40:=jj (F31.out.side HSd.out (by have:=HL0.out;omega));have HOB:=jj (show (Value.slice A2 m2 d2).ownBlock≠some bx from (HSd.out.far bx (by have:=F31.out.1.1;omega) (by have:=HL0.out;omega)).2);clear HSd HBl G31 F31 R31 N31 HPk hi hlt;obtain ⟨⟨-,y0,y1,y2,y3,y4⟩,-⟩:=F40.out;go_wp2_with fail;(with_reducible refine (jew G40.out.rs 20 q.at_ ⟨#[]⟩ A2 m2 d2).mono ?_);rintro e w41 ⟨rfl,b41⟩;have G41:=jj (G40.out.keep b41);have FB:=jj (F40.out.keep b41);have HO4:=jj (HO2.out.below b41);clear b41 G40 F40 HO2 y0 y1 y2 y3 y4;obtain ⟨⟨-,x0,x1,x2,x3,x4⟩,g0,g1,g2,g3,g4⟩:=FB.out;go_wp2;have Hl2:=jj (RS.left (G41.out.push (jaj (Below.refl (W.heap.size+1) w41) HBX.out) (W':=jex w41 bx (.int .i64 20) (.string ⟨#[]⟩) (.int .i64 q.at_) (.int .i64 (jao T s2)) (.slice A2 m2 d2))).rs);go_roundw
                case rel =>
                  refine ⟨je3 T 20 [] q.at_ (q :: a.kids) s2,A2,m2,d2,s2,g,jdw FB.out _ _ _ _ _,NdV.put (HO4.out.node _ (fun _ h=>h) (fun g h e=>⟨h,?_⟩) _ _ _ []),G41.out.push (jaj (Below.refl (W.heap.size+1) w41) HBX.out),hgf,HQ.out⟩;intro hgb;rw[hgb] at e;exact HOB.out e
                case measure =>
                  show jdt p n (jex w41 bx _ _ _ _ _)<jdt p n _;rw[Hl2.out,Hleft.out];exact Hadv.out.lt (by rw[Hb.out];rfl)
          | false =>
            rw[hqp,if_neg (by decide)] at hr;obtain ⟨rfl,rfl⟩:=jap hr;clear hr;go_wp2_with fail;have HS:=jj (jcu G0.out.rs 5 (by decide) [46] ⟨#[46]⟩ rfl);rw[hqd,show jbu T 5 [46] sc=sc by unfold jbu;rw[hqd];rfl] at HS;(with_reducible refine (HS.out).mono ?_);rintro e w21 ⟨rfl,h21,b21⟩;have G21:=jj (G0.out.next h21 b21);have V1:=jj (F0.out.bt b21 HNE.out);clear F0;have V2:=jj (V0.out.bt b21 (fun g hg=>by have:=HPL.out;omega));clear V0;clear h21 b21 G0;clear HS hqd k0 k1 k2 k3 k4;go_wp2_with fail;have HS:=jj (jcu G21.out.rs 5 (by decide) [40] ⟨#[40]⟩ rfl);rw[hqp,show jbu T 5 [40] sc=sc by unfold jbu;rw[hqp];rfl] at HS;(with_reducible refine (HS.out).mono ?_);rintro e w22 ⟨rfl,h22,b22⟩;have G22:=jj (G21.out.next h22 b22);have V3:=jj (V1.out.bt b22 HNE.out);clear V1;have V4:=jj (V2.out.bt b22 (fun g hg=>by have:=HPL.out;omega));clear V2;clear h22 b22 G21;clear HS hqp;obtain ⟨⟨-,y0,y1,y2,y3,y4⟩,-⟩:=V3.out;obtain ⟨⟨-,x0,x1,x2,x3,x4⟩,g0,g1,g2,g3,g4⟩:=G22.out.box;go_wp2;exact bodyPost_ret (jag rfl _ _ W.heap.size _ _ _ _ _ rfl (ja3 G22.out.box _ _ _ _ _)) rfl (G22.out.fin (V4.out.map (fun _ _ _=>rfl) fun g hg _=>hg.1))
end
end
section
open Go.RowKit
theorem rdeep:∀(k:Nat) (n:Nd) (W:World) (ok:Nat→Prop) (v:Value),k≤1000→NdV W ok v n →
    Calls Tryz.prog 70 #[v,.int .i64 ((k:Int)+1)] W fun e w'=>e=.returned (.tuple #[.int .i64 ((jf1 k n).getD 0),.bool (jf1 k n).isSome])∧Below W.heap.size W w':=by
  intro k
  induction k with
  | zero =>
    intro n W ok v _ hv
    cases hv with
    | mk q a e x B m d vs l hvs hlen hr =>
      have HE:=jj (show jf1 0 (.mk q x a e l)=some a by rw[jf1];rfl);have HB:=jj (jak (Below.refl W.heap.size W) (.cells #[.int .i64 q,.string (bs x),.int .i64 a,.int .i64 e,.slice B m d] 25));clear hvs hlen hr;go_enter Tryz.func70,Tryz.ntmps70;go_wp2
      go_ret2
      exact ⟨by rw[HE.out];rfl,HB.out⟩
  | succ k ih =>
    intro n W ok v hk9 hv
    cases hv with
    | mk q a e x B m d vs l hvs hlen hr =>
      have HR:=jj hr;have HV:=jj hvs;have Hl:=jj hlen;have hmd:=hvs.1;have hdd:=hvs.2.1;have HS:=jj (show jf1 (k+1) (.mk q x a e l)=l.findSome? (jf1 k) by rw[jf1];rfl);have HB:=jj (jak (Below.refl W.heap.size W) (.cells #[.int .i64 q,.string (bs x),.int .i64 a,.int .i64 e,.slice B m d] 25));have HF:=jj (ja6 W (.int .i64 q) (.string (bs x)) (.int .i64 a) (.int .i64 e) (.slice B m d) 25);have IHd:=jj (fun n W v h=>ih n W ok v (by omega) h);obtain ⟨K,hK⟩:∃K:Nat,k+1=K:=⟨_,rfl⟩;have e1:((K:Int)+1==1)=false:=beq_eq_false_iff_ne.2 (by omega);(have e2:(K:Int)+1 - 1=(k:Int)+1:=by omega);(have e3:K≤1000:=by omega);rw[hK] at HS ⊢;clear hr hvs hlen ih hK;go_enter Tryz.func70,Tryz.ntmps70;go_wp2_with fail;generalize hW1:W.alloc (.cells #[.int .i64 q,.string (bs x),.int .i64 a,.int .i64 e,.slice B m d] 25)=w1 at HB HF ⊢;clear hW1
      go_loopw [6] (fun y wr=>∃i:Nat,i≤m∧y=.int .i64 (i:Int)∧(l.take i).findSome? (jf1 k)=none∧Below w1.heap.size w1 wr) (fun y _=>m - (intOf y).toNat)
      case atStart=>exact ⟨0,Nat.zero_le _,rfl,rfl,Below.refl _ _⟩
      case round =>
        obtain ⟨i,hi,rfl,hno,hb⟩:=hrel;rename_i wr _;obtain ⟨-,-,-,-,-,f4⟩:=HF.out.keep hb;have hbw:=bgo HB.out hb;by_cases hlt:i<m
        · (have hki:(i:Int)<(m:Int):=by omega);obtain ⟨g,o,c0,c1,c2,c3,c4,rfl,hvi,x0,x1,x2,x3,x4⟩:=(HV.out.below hbw).at_ hlt;obtain ⟨y,hy⟩:∃y,l[i]?=some y:=⟨_,List.getElem?_eq_getElem (by rw[Hl.out];exact hlt)⟩;have HC:=jj (IHd.out y wr _ ((HR.out i _ y hvi hy).kept hbw))
          have htake:l.take (i+1)=l.take i++[y]:=by
            obtain ⟨h1,e⟩:=List.getElem?_eq_some_iff.1 hy;rw[List.take_succ_eq_append_getElem h1,e]
          have hfull:l.findSome? (jf1 k)=match jf1 k y with | some z=>some z | none=>(l.drop (i+1)).findSome? (jf1 k):=by
            conv=>lhs;rw[←List.take_append_drop (i+1) l,List.findSome?_append,htake,List.findSome?_append,hno]
            cases hd:jf1 k y<;>simp[hd]
          have hnx:(l.take (i+1)).findSome? (jf1 k)=jf1 k y:=by
            rw[htake,List.findSome?_append,hno];cases hd:jf1 k y<;>simp[hd]
          cases hD:jf1 k y with
          | some z =>
            rw[hD] at HC hfull;have HE:=jj (show jf1 K (.mk q x a e l)=some z by rw[HS.out];exact hfull);have HC:=jj (show Calls Tryz.prog 70 #[.agg #[c0,c1,c2,c3,c4],.int .i64 ((k:Int)+1)] wr fun e w'=>e=.returned (.tuple #[.int .i64 z,.bool true])∧Below wr.heap.size wr w' from HC.out);have Hb:=jj hbw;clear hvi hy hno htake hfull hnx hD hb hbw;go_wp2_with fail;(with_reducible refine HC.out.mono ?_);rintro e2 w2 ⟨rfl,hb2⟩;have Hb2:=jj (bgo Hb.out hb2);clear hb2 x0 x1 x2 x3 x4 f4;go_wp2
            go_ret2
            exact ⟨by rw[HE.out];rfl,Hb2.out⟩
          | none =>
            rw[hD] at HC hnx;have HC:=jj (show Calls Tryz.prog 70 #[.agg #[c0,c1,c2,c3,c4],.int .i64 ((k:Int)+1)] wr fun e w'=>e=.returned (.tuple #[.int .i64 0,.bool false])∧Below wr.heap.size wr w' from HC.out);have Hn:=jj hnx;have Hb:=jj hb;clear hvi hy hno htake hfull hnx hD hb hbw;go_wp2_with fail;(with_reducible refine HC.out.mono ?_);rintro e2 w2 ⟨rfl,hb2⟩;have Hb2:=jj (bgo Hb.out hb2);clear hb2 x0 x1 x2 x3 x4 f4;go_wp2;go_roundw
            case rel=>exact ⟨i+1,by omega,by go_num,Hn.out,Hb2.out⟩
            case measure=>simp[intOf];omega
        · (have hki:¬(i:Int)<(m:Int):=by omega);have HE:=jj (show jf1 K (.mk q x a e l)=none by rw[HS.out];rw[List.take_of_length_le (by rw[Hl.out];omega)] at hno;exact hno);have Hb:=jj hbw;clear hno hb hbw;go_wp2
          go_ret2
          exact ⟨by rw[HE.out];rfl,Hb.out⟩
end
end Go.Proofs.YtonoklmobocikaaGreatDoor
