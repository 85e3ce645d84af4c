/- Lemmas. -/
import Derived.Test.YtonoklmobocikaaGreatDoorK18
set_option linter.unusedVariables false
set_option linter.unusedSimpArgs false
set_option maxRecDepth 20000
set_option maxHeartbeats 6400000
namespace Go.Proofs.YtonoklmobocikaaGreatDoor
section
open Go.RowKit
section
variable {W:World} {p:Nat} {A:Option Addr} {n c:Nat} {len:Int} {T:List Tk} {i:Nat}
theorem quny {f:Nat} (ih:IHQ p A n c len T f) (hrs:QS W p A n c len T i) {R:Oc Nd} (hR:jbc T len f .unary i=some R):Calls Tryz.prog 174 #[.pointer (some ⟨p,0,none⟩)] W (jgh p A n c len T W i R):=ih .unary i R hR W hrs
def PostC (p:Nat) (A:Option Addr) (n c:Nat) (len:Int) (T:List Tk) (f:Nat):Prop:=∀(X:World) (i:Nat) (R:Oc Nd),QS X p A n c len T i→(jaf (jbc T len f .primary i) fun n j=>jjj T len (jbc T len f) (faP T len i) f f n j)=some R →
  Calls Tryz.prog 209 #[.pointer (some ⟨p,0,none⟩)] X (jgh p A n c len T X i R)
theorem qunary {f:Nat} (ih:IHQ p A n c len T f) (hpost:PostC p A n c len T f) (hrs:QS W p A n c len T i) {R:Oc Nd} (hR:unaryQ T len (jbc T len f) f i=some R):Calls Tryz.prog 174 #[.pointer (some ⟨p,0,none⟩)] W (jgh p A n c len T W i R):=by
  have hn:=hrs.tks.1;unfold unaryQ at hR;by_cases hc:jbg T i=[33]∨jbg T i=[45]
  · rw[if_pos hc] at hR;have hlt:i<n:=fix_in (fun e=>by rw[e] at hc;rcases hc with h | h<;>cases h) hn;have H:=jj hR;have HIH:=jj ih;obtain ⟨Y,hY⟩:=jx (jbg T i);have HF:=jj (fun X (hX:QS X p A n c len T i)=>show Calls Tryz.prog 110 #[.pointer (some ⟨p,0,none⟩)] X fun e w'=>e=.returned (.string (bs Y))∧X=w' by rw[←hY];exact jfz hX);have HP:=jj (fun X=>show Calls Tryz.prog 208 #[.string (bs Y)] X fun e w'=>e=.returned (.bool true)∧X=w' by have:=qprefix Y X;rw[←hY,decide_eq_true hc] at this;rw[←hY];exact this);clear hY hc hR ih hpost hn;have h0:=QW.start hrs;obtain ⟨w0,hw0⟩:=jx (W.alloc (.cells #[.int .i64 0,.string ⟨#[]⟩,.int .i64 0,.int .i64 0,.slice none 0 0] 25));rw[hw0] at h0;have G0:=jj h0;have HW:=jj hw0;have HPL:=jj (show p<W.heap.size+1 by have:=hrs.st.lt;omega);clear h0 hw0;clear hrs;go_enter Tryz.func174,Tryz.ntmps174;go_wp2_with fail;rw[HW.out];clear HW;(with_reducible refine (HF.out _ G0.out.rs).mono ?_);rintro e wx ⟨rfl,rfl⟩;go_wp2_with fail;(with_reducible refine (HP.out _).mono ?_);rintro e wx ⟨rfl,rfl⟩;go_wp2_with fail;(with_reducible refine (jf8 G0.out.rs).mono ?_);rintro e w1 ⟨rfl,hd1⟩;have G1:=jj (G0.out.drawn hd1);clear hd1 G0;go_wp2_with fail;(with_reducible refine (qtake G1.out.rs hlt).mono ?_);rintro e w2 ⟨rfl,hs2,b2⟩;have G2:=jj (G1.out.next hs2 b2);clear hs2 b2 G1;go_wp2_with fail;obtain ⟨r1,hr1,hr2⟩:=jbt H.out;clear H;have H:=jj hr2;clear hr2;(with_reducible refine (quny HIH.out G2.out.rs hr1).mono ?_);rintro e w3 ⟨b3,hr3⟩
    cases hq3:r1 with
    | error a =>
      rw[hq3] at hr3;obtain rfl:e=jbk a:=hr3;have hE:=H.out;(try simp only[hq3,ja7,ja4,ja9,ja5] at hE);cases hE;have BX:=jj (G2.out.bt.trans b3);clear b3 hq3;unfold jbk;go_wp2;exact ⟨rfl,BX.out,rfl⟩
    | ok z3 =>
      obtain ⟨x,i3⟩:=z3;rw[hq3] at hr3;obtain ⟨⟨qA3,qm3,qd3,rfl,hv3⟩,hs3,hl3⟩:=hr3;dsimp only at hl3 hs3 hv3;have hE:=H.out;clear H;(try simp only[hq3,ja7,ja4,ja9,ja5] at hE);have H:=jj hE;clear hE;clear hq3;(try dsimp only);have V1:=jj (hv3.wide (B':=W.heap.size+1) G2.out.size);have G3:=jj (G2.out.next hs3 b3);clear hs3 b3 G2 hv3;clear hr1;have bl4:=jak (Below.refl _ w3) (.cells #[.int .i64 x.kind,.string (bs x.text),.int .i64 x.at_,.int .i64 x.en,.slice qA3 qm3 qd3] 25);go_wp2_with fail;have hF4:=jae w3 (.int .i64 x.kind) (.string (bs x.text)) (.int .i64 x.at_) (.int .i64 x.en) (.slice qA3 qm3 qd3) 25;have NE4:=jj (show w3.heap.size≠p by have:=G3.out.size;have:=G3.out.lt;omega);obtain ⟨w4,hw4⟩:=jx (w3.alloc (.cells #[.int .i64 x.kind,.string (bs x.text),.int .i64 x.at_,.int .i64 x.en,.slice qA3 qm3 qd3] 25));have SZ4:=jj (show w4.heap.size=w3.heap.size+1 by rw[←hw4];simp);rw[hw4] at bl4 hF4 ⊢;clear hw4;have G4:=jj (G3.out.keep bl4);have V2:=jj (V1.out.kept bl4);clear V1;have F4:=jj hF4;clear bl4 hF4 G3;have ho5:=jjc (w:=w4) (B:=W.heap.size+1) G4.out.size V2.out (w3.heap.size+1) SZ4.out.symm;have bl5:=jak (Below.refl _ w4) (.cells #[.int .i64 x.kind,.string (bs x.text),.int .i64 x.at_,.int .i64 x.en,.slice qA3 qm3 qd3] 25);obtain ⟨w5,hw5⟩:=jx (w4.alloc (.cells #[.int .i64 x.kind,.string (bs x.text),.int .i64 x.at_,.int .i64 x.en,.slice qA3 qm3 qd3] 25));rw[hw5] at bl5 ho5 ⊢;clear hw5;have G5:=jj (G4.out.keep bl5);have V3:=jj (V2.out.kept bl5);clear V2;have V4:=jj (F4.out.keep bl5);clear F4;have V5:=jj ho5;clear bl5 ho5 G4;(with_reducible refine (jhi G5.out.rs (by omega) 22 _ _ _ _ _).mono ?_);rintro e w6 ⟨rfl,b6⟩;have G6:=jj (G5.out.keep b6);have V6:=jj (V3.out.kept b6);clear V3;have V7:=jj (V5.out.below b6);clear V5;have V8:=jj (V4.out.keep b6);clear V4;clear b6 G5;have hE:=H.out;clear H;cases hE;obtain ⟨⟨-,x0,x1,x2,x3,x4⟩,g0,g1,g2,g3,g4⟩:=G6.out.box;obtain ⟨⟨-,y00,y01,y02,y03,y04⟩,-⟩:=V8.out;go_wp2;exact bodyPost_ret (jag rfl _ _ W.heap.size _ _ _ _ _ rfl (ja3 G6.out.box _ _ _ _ _)) rfl (G6.out.fin (by omega) (V7.out.sl.node _ _ _ _))
  · rw[if_neg hc] at hR;have HC:=jj (fun X hX=>hpost X i R hX hR);obtain ⟨Y,hY⟩:=jx (jbg T i);have HF:=jj (fun X (hX:QS X p A n c len T i)=>show Calls Tryz.prog 110 #[.pointer (some ⟨p,0,none⟩)] X fun e w'=>e=.returned (.string (bs Y))∧X=w' by rw[←hY];exact jfz hX);have HP:=jj (fun X=>show Calls Tryz.prog 208 #[.string (bs Y)] X fun e w'=>e=.returned (.bool false)∧X=w' by have:=qprefix Y X;rw[←hY,decide_eq_false hc] at this;rw[←hY];exact this);clear hY hc hR ih hpost hn;have h0:=QW.start hrs;obtain ⟨w0,hw0⟩:=jx (W.alloc (.cells #[.int .i64 0,.string ⟨#[]⟩,.int .i64 0,.int .i64 0,.slice none 0 0] 25));rw[hw0] at h0;have G0:=jj h0;have HW:=jj hw0;have HPL:=jj (show p<W.heap.size+1 by have:=hrs.st.lt;omega);clear h0 hw0;clear hrs;go_enter Tryz.func174,Tryz.ntmps174;go_wp2_with fail;rw[HW.out];clear HW;(with_reducible refine (HF.out _ G0.out.rs).mono ?_);rintro e wx ⟨rfl,rfl⟩;go_wp2_with fail;(with_reducible refine (HP.out _).mono ?_);rintro e wx ⟨rfl,rfl⟩;go_wp2_with fail;(with_reducible refine (HC.out _ G0.out.rs).mono ?_);rintro e w1 ⟨b1,hr1⟩
    cases R with
    | error a =>
      obtain rfl:e=jbk a:=hr1;have BX:=jj (G0.out.bt.trans b1);clear b1;unfold jbk;go_wp2;exact ⟨rfl,BX.out,rfl⟩
    | ok z =>
      obtain ⟨y,q⟩:=z;obtain ⟨⟨qA1,qm1,qd1,rfl,hv1⟩,hs1,hl1⟩:=hr1;dsimp only at hl1 hs1 hv1 ⊢;have V1:=jj (hv1.wide (B':=W.heap.size+1) G0.out.size);have G1:=jj (G0.out.next hs1 b1);clear hs1 b1 hv1 G0;obtain ⟨⟨-,x0,x1,x2,x3,x4⟩,g0,g1,g2,g3,g4⟩:=G1.out.box;go_wp2;exact bodyPost_ret (jag rfl _ _ W.heap.size _ _ _ _ _ rfl (ja3 G1.out.box _ _ _ _ _)) rfl (G1.out.fin (by omega) V1.out)
end
end
section
open Go.RowKit
def GotM (p:Nat) (A:Option Addr) (n c:Nat) (len:Int) (T:List Tk) (w:World) (okn:Nat→Prop) (i:Nat) (r:Oc Nd) (e:Ending) (w':World):Prop :=
  Bt p w w'∧match r with
    | .error a=>e=jbk a
    | .ok x=>(∃A' m' d',e=.returned (.agg #[.int .i64 x.1.kind,.string (bs x.1.text),.int .i64 x.1.at_,.int .i64 x.1.en,.slice A' m' d']) ∧
        NdV w' (fun g=>okn g∨w.heap.size≤g) (.agg #[.int .i64 x.1.kind,.string (bs x.1.text),.int .i64 x.1.at_,.int .i64 x.1.en,.slice A' m' d']) x.1)∧QS w' p A n c len T x.2∧i<x.2
def MemC (p:Nat) (A:Option Addr) (n c:Nat) (len:Int) (T:List Tk):Prop:=∀(X:World) (i:Nat) (okn:Nat→Prop) (a:Int) (y:Nd) (B:Option Addr) (m d:Nat),NdV X okn (.agg #[.int .i64 y.kind,.string (bs y.text),.int .i64 y.at_,.int .i64 y.en,.slice B m d]) y→(∀g,okn g→g≠p)→QS X p A n c len T i→jbg T i=[46] →
  Calls Tryz.prog 222 #[.pointer (some ⟨p,0,none⟩),.int .i64 a,.agg #[.int .i64 y.kind,.string (bs y.text),.int .i64 y.at_,.int .i64 y.en,.slice B m d]] X (GotM p A n c len T X okn i (jht (jeb T len (i+1)) fun x j=>.ok (.mk 19 x a (laP T j) [y],j)))
def CalC (p:Nat) (A:Option Addr) (n c:Nat) (len:Int) (T:List Tk) (f:Nat):Prop:=∀(X:World) (i:Nat) (okn:Nat→Prop) (a:Int) (y:Nd) (B:Option Addr) (m d:Nat) (R:Oc Nd),NdV X okn (.agg #[.int .i64 y.kind,.string (bs y.text),.int .i64 y.at_,.int .i64 y.en,.slice B m d]) y→(∀g,okn g→g≠p)→QS X p A n c len T i →
  (jaf (jk8 T len (argQ T len (jbc T len f)) f i) fun l j=>some (.ok (.mk 20 [] a (laP T j) (y :: l.kids),j)))=some R →
  Calls Tryz.prog 223 #[.pointer (some ⟨p,0,none⟩),.int .i64 a,.agg #[.int .i64 y.kind,.string (bs y.text),.int .i64 y.at_,.int .i64 y.en,.slice B m d]] X (GotM p A n c len T X okn i R)
section
variable {W:World} {p:Nat} {A:Option Addr} {n c:Nat} {len:Int} {T:List Tk} {i:Nat}
theorem post_dot {f:Nat} {a:Int} {k j:Nat} {q:Nd} {R:Oc Nd} (hc:jbg T j=[46]) (h:jjj T len (jbc T len f) a f (k+1) q j=some R) :
    jaf (some (jht (jeb T len (j+1)) fun x j=>.ok (.mk 19 x a (laP T j) [q],j))) (fun y j2=>jjj T len (jbc T len f) a f k y j2)=some R:=by
  unfold jjj at h;rw[if_pos hc] at h
  cases hn:jeb T len (j+1) with
  | error b=>rw[hn] at h;exact h
  | ok z=>rw[hn] at h;exact h
theorem post_par {f:Nat} {a:Int} {k j:Nat} {q:Nd} {R:Oc Nd} (hc:jbg T j=[40]) (h:jjj T len (jbc T len f) a f (k+1) q j=some R) :
    jaf (jaf (jk8 T len (argQ T len (jbc T len f)) f j) fun l j=>some (.ok (.mk 20 [] a (laP T j) (q :: l.kids),j))) (fun y j2=>jjj T len (jbc T len f) a f k y j2)=some R:=by
  unfold jjj at h;rw[if_neg (by rw[hc];decide),if_pos hc] at h;rw[je0];exact h
theorem post_no {f:Nat} {a:Int} {k j:Nat} {q:Nd} {R:Oc Nd} (h1:¬jbg T j=[46]) (h2:¬jbg T j=[40]) (h:jjj T len (jbc T len f) a f (k+1) q j=some R):R=.ok (q,j):=by
  unfold jjj at h;rw[if_neg h1,if_neg h2] at h;cases h;rfl
theorem qprim' {f:Nat} (ih:IHQ p A n c len T f) (hrs:QS W p A n c len T i) {R:Oc Nd} (hR:jbc T len f .primary i=some R):Calls Tryz.prog 221 #[.pointer (some ⟨p,0,none⟩)] W (jgh p A n c len T W i R):=ih .primary i R hR W hrs
set_option maxHeartbeats 25600000 in
theorem qpostfix {f:Nat} (ih:IHQ p A n c len T f) (hmem:MemC p A n c len T) (hcal:CalC p A n c len T f):PostC p A n c len T f:=by
  intro W i R hrs hR;have hn6:=hrs.n6;have HIH:=jj ih;have HMem:=jj (fun X i okn a y B m d h1 h2 h3 h4=>hmem X i okn a y B m d h1 h2 h3 h4);have HCal:=jj (fun X i okn a y B m d R h1 h2 h3 h4=>hcal X i okn a y B m d R h1 h2 h3 h4);have H:=jj hR;clear hR ih hmem hcal;have h0:=QW.start hrs;obtain ⟨w0,hw0⟩:=jx (W.alloc (.cells #[.int .i64 0,.string ⟨#[]⟩,.int .i64 0,.int .i64 0,.slice none 0 0] 25));rw[hw0] at h0;have G0:=jj h0;have HW:=jj hw0;have HPL:=jj (show p<W.heap.size+1 by have:=hrs.st.lt;omega);clear h0 hw0;clear hrs;go_enter Tryz.func209,Tryz.ntmps209;go_wp2_with fail;rw[HW.out];clear HW;(with_reducible refine (jf8 G0.out.rs).mono ?_);rintro e w1 ⟨rfl,hd1⟩;have G1:=jj (G0.out.drawn hd1);clear hd1 G0;go_wp2_with fail;obtain ⟨r1,hr1,hr2⟩:=jbt H.out;clear H;have H:=jj hr2;clear hr2;(with_reducible refine (qprim' HIH.out G1.out.rs hr1).mono ?_);rintro e w2 ⟨b2,hr2⟩
  cases hq2:r1 with
  | error a =>
    rw[hq2] at hr2;obtain rfl:e=jbk a:=hr2;have hE:=H.out;rw[hq2] at hE;cases hE;have BX:=jj (G1.out.bt.trans b2);clear b2 hq2;unfold jbk;go_wp2;exact ⟨rfl,BX.out,rfl⟩
  | ok z2 =>
    obtain ⟨q0,i2⟩:=z2;rw[hq2] at hr2;obtain ⟨⟨qA2,qm2,qd2,rfl,hv2⟩,hs2,hl2⟩:=hr2;dsimp only at hl2 hs2 hv2;have hE:=H.out;rw[hq2] at hE;have H:=jj (show (jjj T len (jbc T len f) (faP T len i) f f q0 i2)=some R from hE);clear hE;have HQE:=jj hq2;clear hq2;(try dsimp only);have V1:=jj (hv2.wide (B':=W.heap.size+1) G1.out.size);have G2:=jj (G1.out.next hs2 b2);clear hs2 b2 G1 hv2;clear hr1 HQE;have HQ0:=jj (V1.out.map (fun _ _ _=>rfl) (fun g hg hlt=>(⟨hg,Nat.ne_of_lt hlt⟩:W.heap.size+1≤g∧g≠w2.heap.size)));have SZb:=jj G2.out.size;clear V1;have bl3:=jak (Below.refl _ w2) (.cells #[.int .i64 q0.kind,.string (bs q0.text),.int .i64 q0.at_,.int .i64 q0.en,.slice qA2 qm2 qd2] 25);go_wp2_with fail;have hF3:=jae w2 (.int .i64 q0.kind) (.string (bs q0.text)) (.int .i64 q0.at_) (.int .i64 q0.en) (.slice qA2 qm2 qd2) 25;have NE3:=jj (show w2.heap.size≠p by have:=G2.out.size;have:=G2.out.lt;omega);obtain ⟨w3,hw3⟩:=jx (w2.alloc (.cells #[.int .i64 q0.kind,.string (bs q0.text),.int .i64 q0.at_,.int .i64 q0.en,.slice qA2 qm2 qd2] 25));have SZ3:=jj (show w3.heap.size=w2.heap.size+1 by rw[←hw3];simp);rw[hw3] at bl3 hF3 ⊢;clear hw3;have G3:=jj (G2.out.keep bl3);have V2:=jj (HQ0.out.kept bl3);clear HQ0;have F3:=jj hF3;clear bl3 hF3 G2;(have hbk:p<w2.heap.size:=by have:=HPL.out;have:=SZb.out;omega);obtain ⟨bx,hbx⟩:=jx (w2.heap.size);rw[hbx] at F3 V2 NE3 hbk ⊢;have HNE:=NE3;have HBX:=jj (show W.heap.size+1≤bx by rw[←hbx];exact SZb.out);clear hbx SZb SZ3 NE3
    go_loopw [] (fun wr=>∃(q:Nd) (B:Option Addr) (m d:Nat) (j k':Nat),FiveF wr bx (.int .i64 q.kind) (.string (bs q.text)) (.int .i64 q.at_) (.int .i64 q.en) (.slice B m d)∧NdV wr (fun g=>W.heap.size+1≤g∧g≠bx) (.agg #[.int .i64 q.kind,.string (bs q.text),.int .i64 q.at_,.int .i64 q.en,.slice B m d]) q∧QW p A n c len T W wr j∧jjj T len (jbc T len f) (faP T len i) f k' q j=some R∧i≤j) (fun wr=>jhn p n wr)
    case atStart=>exact ⟨q0,_,_,_,i2,f,F3.out,V2.out,G3.out,H.out,by omega⟩
    case round =>
      clear G3 F3 V2 H;obtain ⟨q,B,m,d,j,k',hF,hV,hw,hsp,hij⟩:=hrel;obtain ⟨wo,hwo⟩:∃wo,wo=wr:=⟨wr,rfl⟩;subst hwo
      cases k' with
      | zero=>cases hsp
      | succ k' =>
      have Hleft:=jj hw.left;have G0:=jj hw;have F0:=jj hF;have V0:=jj hV;have F0sz:=jj hF.1.1;obtain ⟨Y,hY⟩:=jx (jbg T j);have HF:=jj (fun X (hX:QS X p A n c len T j)=>show Calls Tryz.prog 110 #[.pointer (some ⟨p,0,none⟩)] X fun e w'=>e=.returned (.string (bs Y))∧X=w' by rw[←hY];exact jfz hX);have HokP:=jj (show ∀g,W.heap.size+1≤g∧g≠bx→g≠p from fun g hg=>by have:=HPL.out;omega);by_cases h1:jbg T j=[46]
      · have e1:((bs Y).toList==[46])=true:=jda (by rw[←hY];exact h1);have H:=jj (post_dot h1 hsp);have HM1:=jj (HMem.out wo j _ (faP T len i) q B m d hV HokP.out hw.rs h1);obtain ⟨r1,hr1⟩:=jx ((jht (jeb T len (j+1)) fun x j=>Except.ok (Nd.mk 19 x (faP T len i) (laP T j) [q],j)));rw[hr1] at H HM1;have HM1:=jj (show Calls Tryz.prog 222 #[.pointer (some ⟨p,0,none⟩),.int .i64 (jaq T len ⟨i,none⟩),.agg #[.int .i64 q.kind,.string (bs q.text),.int .i64 q.at_,.int .i64 q.en,.slice B m d]] wo (GotM p A n c len T wo (fun g=>W.heap.size+1≤g∧g≠bx) j r1) from HM1.out);clear hr1;obtain ⟨y0,y1,y2,y3,y4⟩:=hF.1.2;clear hF hV hw hsp hY h1;go_wp2_with fail;(with_reducible refine (HF.out _ G0.out.rs).mono ?_);rintro e wx ⟨rfl,rfl⟩;go_wp2_with fail
        skip
        (with_reducible refine (HM1.out).mono ?_);rintro e w21 ⟨b21,hr21⟩
        cases hq21:r1 with
        | error aa =>
          rw[hq21] at hr21;obtain rfl:e=jbk aa:=hr21;have hE:=H.out;rw[hq21] at hE;cases hE;have BX:=jj (G0.out.bt.trans b21);clear b21 hq21;unfold jbk;go_wp2;exact ⟨rfl,BX.out,rfl⟩
        | ok z =>
          obtain ⟨y,q2⟩:=z;rw[hq21] at hr21;obtain ⟨⟨qA,qm,qd,rfl,hv⟩,hs,hl⟩:=hr21;dsimp only at hv hs hl ⊢;have hE:=H.out;rw[hq21] at hE;have H2:=jj (show jjj T len (jbc T len f) (faP T len i) f k' y q2=some R from hE);have V1:=jj (hv.map (fun _ _ _=>rfl) (fun g hg _=>(hg.elim id fun h=>⟨by have:=HBX.out;have:=F0sz.out;omega,by have:=F0sz.out;omega⟩:W.heap.size+1≤g∧g≠bx)));have G1:=jj (G0.out.next hs b21);have F1:=jj (F0.out.bt b21 HNE.out);clear hE hv hs b21 hq21 G0 F0 V0 H;obtain ⟨⟨-,x0,x1,x2,x3,x4⟩,g0,g1,g2,g3,g4⟩:=F1.out;go_wp2;have Hl2:=jj (QW.left (G1.out.push (jaj (Below.refl (W.heap.size+1) w21) HBX.out) (W':=jex w21 bx (.int .i64 y.kind) (.string (bs y.text)) (.int .i64 y.at_) (.int .i64 y.en) (.slice qA qm qd))));go_roundw
          case rel=>exact ⟨y,qA,qm,qd,q2,k',jdw F1.out _ _ _ _ _,NdV.put V1.out,G1.out.push (jaj (Below.refl (W.heap.size+1) w21) HBX.out),H2.out,by omega⟩
          case measure =>
            show jhn p n (jex w21 bx _ _ _ _ _)<jhn p n _;rw[Hl2.out,Hleft.out];have:=G1.out.rs.ib;omega
      have e1:((bs Y).toList==[46])=false:=jb0 (by rw[←hY];exact h1);by_cases h2:jbg T j=[40]
      · have e2:((bs Y).toList==[40])=true:=jda (by rw[←hY];exact h2);obtain ⟨r1,hr1,hr2⟩:=jbt (post_par h2 hsp);have H:=jj hr2;have HM1:=jj (show Calls Tryz.prog 223 #[.pointer (some ⟨p,0,none⟩),.int .i64 (jaq T len ⟨i,none⟩),.agg #[.int .i64 q.kind,.string (bs q.text),.int .i64 q.at_,.int .i64 q.en,.slice B m d]] wo (GotM p A n c len T wo (fun g=>W.heap.size+1≤g∧g≠bx) j r1) from HCal.out wo j _ (faP T len i) q B m d r1 hV HokP.out hw.rs hr1);obtain ⟨y0,y1,y2,y3,y4⟩:=hF.1.2;clear hF hV hw hsp hY h1 h2 hr1 hr2;go_wp2_with fail;(with_reducible refine (HF.out _ G0.out.rs).mono ?_);rintro e wx ⟨rfl,rfl⟩;go_wp2_with fail
        skip
        (with_reducible refine (HM1.out).mono ?_);rintro e w21 ⟨b21,hr21⟩
        cases hq21:r1 with
        | error aa =>
          rw[hq21] at hr21;obtain rfl:e=jbk aa:=hr21;have hE:=H.out;rw[hq21] at hE;cases hE;have BX:=jj (G0.out.bt.trans b21);clear b21 hq21;unfold jbk;go_wp2;exact ⟨rfl,BX.out,rfl⟩
        | ok z =>
          obtain ⟨y,q2⟩:=z;rw[hq21] at hr21;obtain ⟨⟨qA,qm,qd,rfl,hv⟩,hs,hl⟩:=hr21;dsimp only at hv hs hl ⊢;have hE:=H.out;rw[hq21] at hE;have H2:=jj (show jjj T len (jbc T len f) (faP T len i) f k' y q2=some R from hE);have V1:=jj (hv.map (fun _ _ _=>rfl) (fun g hg _=>(hg.elim id fun h=>⟨by have:=HBX.out;have:=F0sz.out;omega,by have:=F0sz.out;omega⟩:W.heap.size+1≤g∧g≠bx)));have G1:=jj (G0.out.next hs b21);have F1:=jj (F0.out.bt b21 HNE.out);clear hE hv hs b21 hq21 G0 F0 V0 H;obtain ⟨⟨-,x0,x1,x2,x3,x4⟩,g0,g1,g2,g3,g4⟩:=F1.out;go_wp2;have Hl2:=jj (QW.left (G1.out.push (jaj (Below.refl (W.heap.size+1) w21) HBX.out) (W':=jex w21 bx (.int .i64 y.kind) (.string (bs y.text)) (.int .i64 y.at_) (.int .i64 y.en) (.slice qA qm qd))));go_roundw
          case rel=>exact ⟨y,qA,qm,qd,q2,k',jdw F1.out _ _ _ _ _,NdV.put V1.out,G1.out.push (jaj (Below.refl (W.heap.size+1) w21) HBX.out),H2.out,by omega⟩
          case measure =>
            show jhn p n (jex w21 bx _ _ _ _ _)<jhn p n _;rw[Hl2.out,Hleft.out];have:=G1.out.rs.ib;omega
      have e2:((bs Y).toList==[40])=false:=jb0 (by rw[←hY];exact h2);obtain rfl:=post_no h1 h2 hsp;obtain ⟨⟨-,y0,y1,y2,y3,y4⟩,-⟩:=hF;clear hV hw hsp hY h1 h2;go_wp2_with fail;(with_reducible refine (HF.out _ G0.out.rs).mono ?_);rintro e wx ⟨rfl,rfl⟩;obtain ⟨⟨-,x0,x1,x2,x3,x4⟩,g0,g1,g2,g3,g4⟩:=G0.out.box;go_wp2;exact bodyPost_ret (jag rfl _ _ W.heap.size _ _ _ _ _ rfl (ja3 G0.out.box _ _ _ _ _)) rfl (G0.out.fin hij (V0.out.map (fun _ _ _=>rfl) fun g hg _=>hg.1))
end
end
section
open Go.RowKit
def headO (T:List Tk) (len:Int) (k i:Nat):Option (Oc (List UInt8 × Nd × Nd)) :=
  jaf (some (jbx T len jed i)) fun _ j=>jaf (some (jeb T len j)) fun x j2=>jaf (jk8 T len (fun q=>some (jg0 T len q)) k j2) fun a j3=>jaf (optQ T (fun q=>some (typO T len q)) [58] j3) fun e j4=>some (.ok ((x,a,e),j4))
theorem head_is (T:List Tk) (len:Int) (k i:Nat) (g:List UInt8→Nd→Nd→Nat→Option (Oc Nd)):headQ T len k i g=jaf (headO T len k i) fun t j=>g t.1 t.2.1 t.2.2 j:=by
  unfold headQ headO;simp only[je0];rfl
abbrev nodeV (x:Nd) (A:Option Addr) (m d:Nat):Value:=.agg #[.int .i64 x.kind,.string (bs x.text),.int .i64 x.at_,.int .i64 x.en,.slice A m d]
def GotH (p:Nat) (A:Option Addr) (n c:Nat) (len:Int) (T:List Tk) (w:World) (i:Nat) (r:Oc (List UInt8 × Nd × Nd)) (e:Ending) (w':World):Prop :=
  Bt p w w'∧match r with
    | .error a=>e=jbk a
    | .ok x=>(∃A1 m1 d1 A2 m2 d2,e=.returned (.tuple #[.string (bs x.1.1),.agg #[.int .i64 x.1.2.1.kind,.string (bs x.1.2.1.text),.int .i64 x.1.2.1.at_,.int .i64 x.1.2.1.en,.slice A1 m1 d1],.agg #[.int .i64 x.1.2.2.kind,.string (bs x.1.2.2.text),.int .i64 x.1.2.2.at_,.int .i64 x.1.2.2.en,.slice A2 m2 d2]]) ∧
        NdV w' (fun g=>w.heap.size≤g) (.agg #[.int .i64 x.1.2.1.kind,.string (bs x.1.2.1.text),.int .i64 x.1.2.1.at_,.int .i64 x.1.2.1.en,.slice A1 m1 d1]) x.1.2.1∧NdV w' (fun g=>w.heap.size≤g) (.agg #[.int .i64 x.1.2.2.kind,.string (bs x.1.2.2.text),.int .i64 x.1.2.2.at_,.int .i64 x.1.2.2.en,.slice A2 m2 d2]) x.1.2.2)∧QS w' p A n c len T x.2∧i<x.2
theorem res_head {fn:Func} {u p q:Tmp} (h:fn.results=#[.tmp u,.cell p 25,.cell q 25]) (tmps:Array Value) (W:World) (b b':Nat) (z c0 c1 c2 c3 c4 d0 d1 d2 d3 d4:Value) (hu:tmps.getD u undef=z) (hp:tmps.getD p undef=.pointer (some ⟨b,0,none⟩)) (hq:tmps.getD q undef=.pointer (some ⟨b',0,none⟩)) (hf:FiveN W b c0 c1 c2 c3 c4) (hg:FiveN W b' d0 d1 d2 d3 d4) :
    (results fn tmps).run Tryz.prog W=.ok (.tuple #[z,.agg #[c0,c1,c2,c3,c4],.agg #[d0,d1,d2,d3,d4]]) W:=by
  (have hu':tmps[u]?.getD undef=z:=by simpa using hu);(have hp':tmps[p]?.getD undef=.pointer (some ⟨b,0,none⟩):=by simpa using hp);(have hq':tmps[q]?.getD undef=.pointer (some ⟨b',0,none⟩):=by simpa using hq);simp[results,h,hu',hp',hq',asAddr,jil hf,jil hg,Result.andThen]
end
section
open Go.RowKit
theorem depthL_app (l r:List Nd):jd3 (l++r)=max (jd3 l) (jd3 r):=by
  induction l with
  | nil=>simp[jd3]
  | cons n l ih=>rw[List.cons_append,jd3,jd3,ih];omega
theorem depthL_take {l:List Nd} {k:Nat} {n:Nd} (h:l[k]?=some n):jd3 (l.take (k+1))=max (jd3 (l.take k)) (jde n):=by
  obtain ⟨h1,e⟩:=List.getElem?_eq_some_iff.1 h;(have h2:l.take (k+1)=l.take k++[n]:=by rw[List.take_succ_eq_append_getElem h1,e]);rw[h2,depthL_app,jd3,jd3];omega
mutual
theorem depth_size:∀n:Nd,jde n≤sizeN n
  | .mk _ _ _ _ l=>by have:=jj8 l;rw[jde,sizeN];omega
theorem jj8:∀l:List Nd,jd3 l≤ja8 l
  | []=>by rw[jd3,ja8];omega
  | n :: l=>by have:=depth_size n;have:=jj8 l;rw[jd3,ja8];omega
end
end
section
open Go.RowKit
def jhd:Nat→Nd→Option Nd
  | 0,n=>some n
  | k+1,n=>n.kids.findSome? (jhd k)
theorem deepY_at:∀(k:Nat) (n:Nd),(jhd k n).map Nd.at_=jf1 k n:=by
  intro k
  induction k with
  | zero=>intro n;rfl
  | succ k ih =>
    intro n;rw[jhd,jf1];generalize n.kids=l
    induction l with
    | nil=>rfl
    | cons y l ihl =>
      rw[List.findSome?_cons,List.findSome?_cons,←ih y]
      cases h:jhd k y with
      | none=>exact ihl
      | some z=>rfl
theorem deepY_snoc {k i:Nat} {l:List Nd} {y:Nd} (hy:l[i]?=some y) (hno:(l.take i).findSome? (jhd k)=none) :
    ((l.take (i+1)).findSome? (jhd k)=jhd k y)∧∀z,jhd k y=some z→l.findSome? (jhd k)=some z:=by
  obtain ⟨h1,e⟩:=List.getElem?_eq_some_iff.1 hy;(have htake:l.take (i+1)=l.take i++[y]:=by rw[List.take_succ_eq_append_getElem h1,e]);refine ⟨?_,fun z hz=>?_⟩
  · rw[htake,List.findSome?_append,hno];cases hd:jhd k y<;>simp[hd]
  · rw[←List.take_append_drop (i+1) l,List.findSome?_append,htake,List.findSome?_append,hno];simp[hz]
theorem jb7 {W:World} {ok:Nat→Prop} {A:Option Addr} {m d:Nat} {y:Nd} (h:NdS W ok A m d y.kids):NdV W ok (.agg #[.int .i64 y.kind,.string (bs y.text),.int .i64 y.at_,.int .i64 y.en,.slice A m d]) y:=by
  obtain ⟨k,x,a,e,l⟩:=y;exact h.node _ _ _ _
def GotD (w:World) (r:Option Nd) (e:Ending) (w':World):Prop :=
  Below w.heap.size w w'∧match r with
    | none=>e=.returned (.tuple #[.agg #[.int .i64 0,.string ⟨#[]⟩,.int .i64 0,.int .i64 0,.slice none 0 0],.bool false])
    | some y=>∃A m d,e=.returned (.tuple #[.agg #[.int .i64 y.kind,.string (bs y.text),.int .i64 y.at_,.int .i64 y.en,.slice A m d],.bool true])
theorem res_pair {fn:Func} {p u:Tmp} (h:fn.results=#[.cell p 25,.tmp u]) (tmps:Array Value) (W:World) (b:Nat) (c0 c1 c2 c3 c4 z:Value) (hp:tmps.getD p undef=.pointer (some ⟨b,0,none⟩)) (hu:tmps.getD u undef=z) (hf:FiveN W b c0 c1 c2 c3 c4) :
    (results fn tmps).run Tryz.prog W=.ok (.tuple #[.agg #[c0,c1,c2,c3,c4],z]) W:=by
  (have hp':tmps[p]?.getD undef=.pointer (some ⟨b,0,none⟩):=by simpa using hp);(have hu':tmps[u]?.getD undef=z:=by simpa using hu);simp[results,h,hp',hu',asAddr,jil hf,Result.andThen]
theorem qonlevel:∀(k:Nat) (n:Nd) (W:World) (ok:Nat→Prop) (v:Value),k≤1000→NdV W ok v n →
    Calls Tryz.prog 43 #[v,.int .i64 ((k:Int)+1)] W (GotD W (jhd k n)):=by
  intro k
  induction k with
  | zero =>
    intro n W ok v _ hv
    cases hv with
    | mk q a e x B m d vs l hvs hlen hr =>
      have HE:=jj (show jhd 0 (.mk q x a e l)=some (.mk q x a e l) by rw[jhd]);have hB:=jak (jak (Below.refl W.heap.size W) (.cells #[.int .i64 q,.string (bs x),.int .i64 a,.int .i64 e,.slice B m d] 25)) (.cells #[.int .i64 0,.string ⟨#[]⟩,.int .i64 0,.int .i64 0,.slice none 0 0] 25);have hF:=jae (W.alloc (.cells #[.int .i64 q,.string (bs x),.int .i64 a,.int .i64 e,.slice B m d] 25)) (.int .i64 0) (.string ⟨#[]⟩) (.int .i64 0) (.int .i64 0) (.slice none 0 0) 25;rw[show (W.alloc (.cells #[.int .i64 q,.string (bs x),.int .i64 a,.int .i64 e,.slice B m d] 25)).heap.size=W.heap.size+1 by simp] at hF;have hG:=(jae W (.int .i64 q) (.string (bs x)) (.int .i64 a) (.int .i64 e) (.slice B m d) 25).keep (jak (Below.refl _ _) (.cells #[.int .i64 0,.string ⟨#[]⟩,.int .i64 0,.int .i64 0,.slice none 0 0] 25));obtain ⟨w1,hw1⟩:=jx ((W.alloc (.cells #[.int .i64 q,.string (bs x),.int .i64 a,.int .i64 e,.slice B m d] 25)).alloc (.cells #[.int .i64 0,.string ⟨#[]⟩,.int .i64 0,.int .i64 0,.slice none 0 0] 25));rw[hw1] at hB hF hG;have HF:=jj hF;have HG:=jj hG;have HB:=jj hB;have HW:=jj hw1;clear hvs hlen hr hB hF hG hw1;rw[HE.out];go_enter Tryz.func43,Tryz.ntmps43;go_upto_region 2 with fail;rw[HW.out];obtain ⟨⟨-,x0,x1,x2,x3,x4⟩,g0,g1,g2,g3,g4⟩:=HF.out;obtain ⟨⟨-,y0,y1,y2,y3,y4⟩,-⟩:=HG.out;go_wp2;exact bodyPost_ret (res_pair rfl _ _ (W.heap.size+1) _ _ _ _ _ _ rfl rfl (ja3 HF.out (.int .i64 q) (.string (bs x)) (.int .i64 a) (.int .i64 e) (.slice B m d))) rfl ⟨jaj HB.out (Nat.le_succ _),B,m,d,rfl⟩
  | succ k ih =>
    intro n W ok v hk9 hv
    cases hv with
    | mk q a e x B m d vs l hvs hlen hr =>
      have HV:=jj (show NdS W ok B m d l from ⟨vs,hvs,hlen,hr⟩);have Hl:=jj hlen;have hmd:=hvs.1;have hdd:=hvs.2.1;have HS:=jj (show jhd (k+1) (.mk q x a e l)=l.findSome? (jhd k) by rw[jhd];rfl);have hB:=jak (jak (Below.refl W.heap.size W) (.cells #[.int .i64 q,.string (bs x),.int .i64 a,.int .i64 e,.slice B m d] 25)) (.cells #[.int .i64 0,.string ⟨#[]⟩,.int .i64 0,.int .i64 0,.slice none 0 0] 25);have hF:=jae (W.alloc (.cells #[.int .i64 q,.string (bs x),.int .i64 a,.int .i64 e,.slice B m d] 25)) (.int .i64 0) (.string ⟨#[]⟩) (.int .i64 0) (.int .i64 0) (.slice none 0 0) 25;rw[show (W.alloc (.cells #[.int .i64 q,.string (bs x),.int .i64 a,.int .i64 e,.slice B m d] 25)).heap.size=W.heap.size+1 by simp] at hF;have hG:=(jae W (.int .i64 q) (.string (bs x)) (.int .i64 a) (.int .i64 e) (.slice B m d) 25).keep (jak (Below.refl _ _) (.cells #[.int .i64 0,.string ⟨#[]⟩,.int .i64 0,.int .i64 0,.slice none 0 0] 25));obtain ⟨w1,hw1⟩:=jx ((W.alloc (.cells #[.int .i64 q,.string (bs x),.int .i64 a,.int .i64 e,.slice B m d] 25)).alloc (.cells #[.int .i64 0,.string ⟨#[]⟩,.int .i64 0,.int .i64 0,.slice none 0 0] 25));rw[hw1] at hB hF hG;have HF:=jj hF;have HG:=jj hG;have HB:=jj hB;have HW:=jj hw1;have IHd:=jj (fun n W ok v h=>ih n W ok v (by omega) h);obtain ⟨R,hR⟩:=jx (jhd (k+1) (.mk q x a e l));obtain ⟨K,hK⟩:∃K:Nat,k+1=K:=⟨_,rfl⟩;have e1:((K:Int)+1==1)=false:=beq_eq_false_iff_ne.2 (by omega);(have e2:(K:Int)+1 - 1=(k:Int)+1:=by omega);(have e3:K≤1000:=by omega);have HR:=jj (show l.findSome? (jhd k)=R by rw[←HS.out];exact hR);rw[hR,hK];clear hr hvs hlen ih hK hB hF hG hw1 hR HS;go_enter Tryz.func43,Tryz.ntmps43;go_upto_region 3 with fail;rw[HW.out];obtain ⟨⟨-,y0,y1,y2,y3,y4⟩,-⟩:=HG.out;go_wp2_with fail;clear HW y0 y1 y2 y3 y4 HG
      go_loopw [16] (fun y wr=>∃i:Nat,i≤m∧y=.int .i64 (i:Int)∧(l.take i).findSome? (jhd k)=none∧Below w1.heap.size w1 wr) (fun y _=>m - (intOf y).toNat)
      case atStart=>exact ⟨0,Nat.zero_le _,rfl,rfl,Below.refl _ _⟩
      case round =>
        obtain ⟨i,hi,rfl,hno,hb⟩:=hrel;rename_i wr _;have hbw:=bgo HB.out hb;have HN:=jj hno;have Hb:=jj hb;have Hbw:=jj hbw;by_cases hlt:i<m
        · (have hki:(i:Int)<(m:Int):=by omega);obtain ⟨g,o,y,qA,qm,qd,rfl,hy,hq,x0,x1,x2,x3,x4⟩:=(HV.out.kept hbw).at_ hlt;have HC:=jj (IHd.out y (wr.alloc (.cells #[.int .i64 y.kind,.string (bs y.text),.int .i64 y.at_,.int .i64 y.en,.slice qA qm qd] 25)) ok _ ((jb7 hq).kept (jak (Below.refl _ wr) (.cells #[.int .i64 y.kind,.string (bs y.text),.int .i64 y.at_,.int .i64 y.en,.slice qA qm qd] 25))));obtain ⟨hs1,hs2⟩:=deepY_snoc hy hno;have b1:=jak (Below.refl _ wr) (.cells #[.int .i64 y.kind,.string (bs y.text),.int .i64 y.at_,.int .i64 y.en,.slice qA qm qd] 25);have HN2:=jj hs1;have HN3:=jj hs2
          cases hD:jhd k y with
          | some z =>
            rw[hD] at HC;have HE:=jj (show R=some z by rw[←HR.out];exact HN3.out z hD);have B2:=jj (bgo Hbw.out b1);have F2:=jj ((HF.out.keep hb).keep b1);have HC:=jj (show Calls Tryz.prog 43 #[.agg #[.int .i64 y.kind,.string (bs y.text),.int .i64 y.at_,.int .i64 y.en,.slice qA qm qd],.int .i64 ((k:Int)+1)] (wr.alloc (.cells #[.int .i64 y.kind,.string (bs y.text),.int .i64 y.at_,.int .i64 y.en,.slice qA qm qd] 25)) fun e w'=>Below (wr.alloc (.cells #[.int .i64 y.kind,.string (bs y.text),.int .i64 y.at_,.int .i64 y.en,.slice qA qm qd] 25)).heap.size (wr.alloc (.cells #[.int .i64 y.kind,.string (bs y.text),.int .i64 y.at_,.int .i64 y.en,.slice qA qm qd] 25)) w'∧∃A m d,e=.returned (.tuple #[.agg #[.int .i64 z.kind,.string (bs z.text),.int .i64 z.at_,.int .i64 z.en,.slice A m d],.bool true]) from HC.out);clear hb hbw b1 hno hy hq hs1 hs2 HN HN2 HN3 hD;go_wp2_with fail;(with_reducible refine HC.out.mono ?_);rintro ee w2 ⟨b2,rA,rm,rd,rfl⟩;have B3:=jj (bgo (bgo B2.out b2) (jak (Below.refl _ w2) (.cells #[.int .i64 z.kind,.string (bs z.text),.int .i64 z.at_,.int .i64 z.en,.slice rA rm rd] 25)));have F3:=jj ((F2.out.keep b2).keep (jak (Below.refl _ w2) (.cells #[.int .i64 z.kind,.string (bs z.text),.int .i64 z.at_,.int .i64 z.en,.slice rA rm rd] 25)));clear b2 B2 F2 x0 x1 x2 x3 x4;obtain ⟨⟨-,x0,x1,x2,x3,x4⟩,g0,g1,g2,g3,g4⟩:=F3.out;go_wp2;rw[HE.out];exact bodyPost_ret (res_pair rfl _ _ (W.heap.size+1) _ _ _ _ _ _ rfl rfl (ja3 F3.out (.int .i64 z.kind) (.string (bs z.text)) (.int .i64 z.at_) (.int .i64 z.en) (.slice rA rm rd))) rfl ⟨jaj B3.out (Nat.le_succ _),rA,rm,rd,rfl⟩
          | none =>
            rw[hD] at HC HN2;have B2:=jj (bgo Hb.out b1);have F2:=jj ((HF.out.keep hb).keep b1);have HC:=jj (show Calls Tryz.prog 43 #[.agg #[.int .i64 y.kind,.string (bs y.text),.int .i64 y.at_,.int .i64 y.en,.slice qA qm qd],.int .i64 ((k:Int)+1)] (wr.alloc (.cells #[.int .i64 y.kind,.string (bs y.text),.int .i64 y.at_,.int .i64 y.en,.slice qA qm qd] 25)) fun e w'=>Below (wr.alloc (.cells #[.int .i64 y.kind,.string (bs y.text),.int .i64 y.at_,.int .i64 y.en,.slice qA qm qd] 25)).heap.size (wr.alloc (.cells #[.int .i64 y.kind,.string (bs y.text),.int .i64 y.at_,.int .i64 y.en,.slice qA qm qd] 25)) w'∧e=.returned (.tuple #[.agg #[.int .i64 0,.string ⟨#[]⟩,.int .i64 0,.int .i64 0,.slice none 0 0],.bool false]) from HC.out);clear hb hbw b1 hno hy hq hs1 hs2 HN HN3 hD;go_wp2_with fail;(with_reducible refine HC.out.mono ?_);rintro ee w2 ⟨b2,rfl⟩;have B3:=jj (bgo (bgo B2.out b2) (jak (Below.refl _ w2) (.cells #[.int .i64 0,.string ⟨#[]⟩,.int .i64 0,.int .i64 0,.slice none 0 0] 25)));clear b2 B2 F2 x0 x1 x2 x3 x4;go_wp2;go_roundw
            case rel=>exact ⟨i+1,by omega,by go_num,HN2.out,B3.out⟩
            case measure=>simp[intOf];omega
        · (have hki:¬(i:Int)<(m:Int):=by omega);have HE:=jj (show R=none by rw[←HR.out];rw[List.take_of_length_le (by rw[Hl.out];omega)] at hno;exact hno);have F2:=jj (HF.out.keep hb);clear hno hb hbw HN;obtain ⟨⟨-,x0,x1,x2,x3,x4⟩,g0,g1,g2,g3,g4⟩:=F2.out;go_wp2;rw[HE.out];exact bodyPost_ret (res_pair rfl _ _ (W.heap.size+1) _ _ _ _ _ _ rfl rfl (ja3 F2.out (.int .i64 0) (.string ⟨#[]⟩) (.int .i64 0) (.int .i64 0) (.slice none 0 0))) rfl ⟨jaj Hbw.out (Nat.le_succ _),rfl⟩
end
section
mutual
def eqN (full:Bool):Nd→Nd→Bool
  | .mk k x a e l,.mk k' x' a' e' l'=>k==k' && (x==x' && ((!full||a==a')&&((!full||e==e')&&eqL full l l')))
def eqL (full:Bool):List Nd→List Nd→Bool
  | [],[]=>true
  | n :: l,m :: r=>eqN full n m&&eqL full l r
  | [],_ :: _=>false
  | _ :: _,[]=>false
end
mutual
theorem jnt (full:Bool):∀n:Nd,eqN full n n=true
  | .mk k x a e l=>by rw[eqN,eqL_refl full l];simp
theorem eqL_refl (full:Bool):∀l:List Nd,eqL full l l=true
  | []=>by rw[eqL]
  | n :: l=>by rw[eqL,jnt full n,eqL_refl full l];try rfl
end
theorem eqL_len {full:Bool}:∀{l r:List Nd},l.length≠r.length→eqL full l r=false
  | [],[],h=>absurd rfl h
  | n :: l,m :: r,h=>by rw[eqL,eqL_len (l:=l) (r:=r) (by simpa using h),Bool.and_false]
  | [],m :: r,_=>by rw[eqL]
  | n :: l,[],_=>by rw[eqL]
theorem eqL_snoc {full:Bool}:∀{l r:List Nd} {x y:Nd},l.length=r.length→eqL full (l++[x]) (r++[y])=(eqL full l r&&eqN full x y)
  | [],[],x,y,_=>by simp[eqL]
  | n :: l,m :: r,x,y,h=>by
    rw[List.cons_append,List.cons_append,eqL,eqL,eqL_snoc (by simpa using h),Bool.and_assoc]
  | [],m :: r,x,y,h=>by cases h
  | n :: l,[],x,y,h=>by cases h
theorem eqL_app {full:Bool}:∀{l r l' r':List Nd},l.length=r.length→eqL full (l++l') (r++r')=(eqL full l r&&eqL full l' r')
  | [],[],l',r',_=>by simp[eqL]
  | n :: l,m :: r,l',r',h=>by
    rw[List.cons_append,List.cons_append,eqL,eqL,eqL_app (by simpa using h),Bool.and_assoc]
  | [],m :: r,_,_,h=>by cases h
  | n :: l,[],_,_,h=>by cases h
theorem eq_next {full:Bool} {l r:List Nd} {i:Nat} (hlen:l.length=r.length) (h:eqL full (l.take i) (r.take i)=true) {x y:Nd} (hx:l[i]?=some x) (hy:r[i]?=some y) :
    (eqN full x y=true→eqL full (l.take (i+1)) (r.take (i+1))=true)∧(eqN full x y=false→eqL full l r=false):=by
  obtain ⟨h1,e1⟩:=List.getElem?_eq_some_iff.1 hx;obtain ⟨h2,e2⟩:=List.getElem?_eq_some_iff.1 hy;(have t1:l.take (i+1)=l.take i++[x]:=by rw[List.take_succ_eq_append_getElem h1,e1]);(have t2:r.take (i+1)=r.take i++[y]:=by rw[List.take_succ_eq_append_getElem h2,e2]);(have hl:(l.take i).length=(r.take i).length:=by simp;omega);refine ⟨fun h3=>by rw[t1,t2,eqL_snoc hl,h,h3];rfl,fun h3=>?_⟩;rw[←List.take_append_drop (i+1) l,←List.take_append_drop (i+1) r,t1,t2,eqL_app (by simp;omega),eqL_snoc hl,h3];simp
end
end Go.Proofs.YtonoklmobocikaaGreatDoor
