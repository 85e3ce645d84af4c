/- Lemmas. -/
import Derived.Test.YtonoklmobocikaaGreatDoorK12
set_option linter.unusedVariables false
set_option linter.unusedSimpArgs false
set_option maxRecDepth 20000
set_option maxHeartbeats 6400000
namespace Go.Proofs.YtonoklmobocikaaGreatDoor
section
open Go.RowKit
section
variable {W:World} {p:Nat} {A:Option Addr} {n c:Nat} {len:Int} {T:List Tk} {i:Nat}
theorem qinpar {N:Nat} {E:Nat→Option (Oc Nd)} (hel:ElQ p A n c len T N E) (hlt:∀i x j,E i=some (.ok (x,j))→i<j) (hrs:QS W p A n c len T i) {k:Nat} {R:Oc Nd} (hR:jk8 T len E k i=some R) :
    Calls Tryz.prog 206 #[.pointer (some ⟨p,0,none⟩),.func (.func N) #[] #[]] W (jgh p A n c len T W i R):=by
  unfold jk8 at hR;have hn6:=hrs.n6;have hcf:=hel.run;have HEl:=jj hel;have HLt:=jj hlt;have h0:=QW.start hrs;obtain ⟨w0,hw0⟩:=jx (W.alloc (.cells #[.int .i64 0,.string ⟨#[]⟩,.int .i64 0,.int .i64 0,.slice none 0 0] 25));rw[hw0] at h0;have G0:=jj h0;have HW:=jj hw0;have HPL:=jj (show p<W.heap.size+1 by have:=hrs.st.lt;omega);clear h0 hw0;have H:=jj hR;clear hrs hR hel hlt;go_enter Tryz.func206,Tryz.ntmps206;go_wp2_with fail;rw[HW.out];clear HW;(with_reducible refine (jgz G0.out.rs [40] (by decide) ⟨#[40]⟩ rfl).mono ?_);rintro e w1 ⟨b1,hr1⟩
  cases hq1:jbx T len [40] i with
  | error a =>
    rw[hq1] at hr1;obtain rfl:e=jbk a:=hr1;have hE:=H.out;(try simp only[hq1,ja7,ja4,ja9,ja5] at hE);cases hE;have BX:=jj (G0.out.bt.trans b1);clear b1 hq1;unfold jbk;go_wp2;exact ⟨rfl,BX.out,rfl⟩
  | ok z1 =>
    obtain ⟨⟨⟩,i1⟩:=z1;rw[hq1] at hr1;obtain ⟨rfl,hs1,hl1⟩:=hr1;dsimp only at hl1 hs1;have hE:=H.out;clear H;(try simp only[hq1,ja7,ja4,ja9,ja5] at hE);have H:=jj hE;clear hE;clear hq1;(try dsimp only);have G1:=jj (G0.out.next hs1 b1);clear hs1 b1 G0;go_wp2_with fail;(with_reducible refine (qend G1.out.rs (by omega)).mono ?_);rintro e w2 ⟨rfl,hd2⟩;have G2:=jj (G1.out.drawn hd2);clear hd2 G1;go_wp2_with fail;by_cases hc:jbg T i1=[41]
    · (with_reducible refine (jhh G2.out.rs [41] (by decide) ⟨#[41]⟩ rfl hc).mono ?_);rintro e w3 ⟨rfl,hs3,b3⟩;have hE:=H.out;clear H;(try simp only[hc,ja7,ja4,ja9,ja5,if_true] at hE);have H:=jj hE;clear hE;have G3:=jj (G2.out.next hs3 b3);clear hs3 b3 G2;obtain ⟨i3,hi3⟩:∃q,i1+1=q:=⟨_,rfl⟩;(have hl3:i1<i3:=by omega);rw[hi3] at H G3;clear hi3;go_wp2_with fail;have HLs:=jj (qlist (NdS.nil (W:=w3) (ok:=fun g=>W.heap.size+1≤g)) (by omega) (jao T ⟨i1,none⟩));have V1:=jj ((NdS.nil (W:=w3) (ok:=fun g=>W.heap.size+1≤g)).listV (jao T ⟨i1,none⟩));(with_reducible refine (HLs.out).mono ?_);rintro e w4 ⟨rfl,b4⟩;have G4:=jj (G3.out.keep b4);have V2:=jj (V1.out.kept b4);clear V1;clear b4 G3;clear HLs;have hE:=H.out;clear H;cases hE;obtain ⟨⟨-,x0,x1,x2,x3,x4⟩,g0,g1,g2,g3,g4⟩:=G4.out.box;go_wp2;exact bodyPost_ret (jag rfl _ _ W.heap.size _ _ _ _ _ rfl (ja3 G4.out.box _ _ _ _ _)) rfl (G4.out.fin (by omega) V2.out)
    · (with_reducible refine (jiz G2.out.rs [41] (by decide) ⟨#[41]⟩ rfl hc).mono ?_);rintro e w3 ⟨rfl,hs3,b3⟩;have hE:=H.out;clear H;(try simp only[hc,ja7,ja4,ja9,ja5,if_true,if_false] at hE);have H:=jj hE;clear hE;have G3:=jj (G2.out.next hs3 b3);clear hs3 b3 G2;go_wp2_with fail;obtain ⟨r1,hr1,hr2⟩:=jbt H.out;clear H;have H:=jj hr2;clear hr2;(with_reducible refine (qser HEl.out HLt.out G3.out.rs hr1).mono ?_);rintro e w4 ⟨b4,hr4⟩
      cases hq4:r1 with
      | error a =>
        rw[hq4] at hr4;obtain rfl:e=jbk a:=hr4;have hE:=H.out;(try simp only[hq4,ja7,ja4,ja9,ja5] at hE);cases hE;have BX:=jj (G3.out.bt.trans b4);clear b4 hq4;unfold jbk;go_wp2;exact ⟨rfl,BX.out,rfl⟩
      | ok z4 =>
        obtain ⟨l,i4⟩:=z4;rw[hq4] at hr4;obtain ⟨⟨qA4,qm4,qd4,rfl,ho4⟩,hs4,hl4⟩:=hr4;dsimp only at hl4 hs4 ho4;have hE:=H.out;clear H;(try simp only[hq4,ja7,ja4,ja9,ja5] at hE);have H:=jj hE;clear hE;clear hq4;(try dsimp only);have V1:=jj (ho4.mono (B':=W.heap.size+1) G3.out.size);have G4:=jj (G3.out.next hs4 b4);clear hs4 b4 G3 ho4;clear hr1;go_wp2_with fail;(with_reducible refine (jgz G4.out.rs [41] (by decide) ⟨#[41]⟩ rfl).mono ?_);rintro e w5 ⟨b5,hr5⟩
        cases hq5:jbx T len [41] i4 with
        | error a =>
          rw[hq5] at hr5;obtain rfl:e=jbk a:=hr5;have hE:=H.out;(try simp only[hq5,ja7,ja4,ja9,ja5] at hE);cases hE;have BX:=jj (G4.out.bt.trans b5);clear b5 hq5;unfold jbk;go_wp2;exact ⟨rfl,BX.out,rfl⟩
        | ok z5 =>
          obtain ⟨⟨⟩,i5⟩:=z5;rw[hq5] at hr5;obtain ⟨rfl,hs5,hl5⟩:=hr5;dsimp only at hl5 hs5;have hE:=H.out;clear H;(try simp only[hq5,ja7,ja4,ja9,ja5] at hE);have H:=jj hE;clear hE;clear hq5;(try dsimp only);have G5:=jj (G4.out.next hs5 b5);have V2:=jj (V1.out.bt b5 HPL.out);clear V1;clear hs5 b5 G4;go_wp2_with fail;have hib:=G5.out.rs.ib;have hlen:=(V2.out.sl).len.1;have HLs:=jj (qlist (V2.out.sl) (by omega) (jao T ⟨i1,none⟩));have V3:=jj ((V2.out.sl).listV (jao T ⟨i1,none⟩));(with_reducible refine (HLs.out).mono ?_);rintro e w6 ⟨rfl,b6⟩;have G6:=jj (G5.out.keep b6);have V4:=jj (V3.out.kept b6);clear V3;have V5:=jj (V2.out.below b6);clear V2;clear b6 G5;clear HLs;have hE:=H.out;clear H;cases hE;obtain ⟨⟨-,x0,x1,x2,x3,x4⟩,g0,g1,g2,g3,g4⟩:=G6.out.box;go_wp2;exact bodyPost_ret (jag rfl _ _ W.heap.size _ _ _ _ _ rfl (ja3 G6.out.box _ _ _ _ _)) rfl (G6.out.fin (by omega) V4.out)
theorem loop_acc (E:Nat→Option (Oc Nd)) (k j:Nat) (acc:List Nd) (g:Int):(jaf (jaf (E j) fun x j1=>jaf (jj4 T E k j1) fun (l:List Nd) j2=>some (Except.ok (x :: l,j2))) fun (l:List Nd) j2=>some (Except.ok (jbm (acc++l) g,j2))) =
    jaf (E j) fun x j1=>jaf (jj4 T E k j1) fun (l:List Nd) j2=>some (Except.ok (jbm ((acc++[x])++l) g,j2)):=by
  rw[je0];congr 1;funext x j1;rw[je0];congr 1;funext l j2;simp[jaf]
set_option maxHeartbeats 12800000 in
theorem qinbra {N:Nat} {E:Nat→Option (Oc Nd)} (hel:ElQ p A n c len T N E) (hlt:∀i x j,E i=some (.ok (x,j))→i<j) (hrs:QS W p A n c len T i) {k:Nat} {R:Oc Nd} (hR:jn3 T len E k i=some R) :
    Calls Tryz.prog 169 #[.pointer (some ⟨p,0,none⟩),.func (.func N) #[] #[]] W (jgh p A n c len T W i R):=by
  obtain ⟨i0,hi0,hz0,hz1,hz2⟩:=info_parts jfd;unfold jn3 at hR;have hn6:=hrs.n6;have hcf:=hel.run;have HEl:=jj hel;have HLt:=jj hlt;have h0:=QW.start hrs;obtain ⟨w0,hw0⟩:=jx (W.alloc (.cells #[.int .i64 0,.string ⟨#[]⟩,.int .i64 0,.int .i64 0,.slice none 0 0] 25));rw[hw0] at h0;have G0:=jj h0;have HW:=jj hw0;have HPL:=jj (show p<W.heap.size+1 by have:=hrs.st.lt;omega);clear h0 hw0;have H:=jj hR;clear hrs hR hel hlt;go_enter Tryz.func169,Tryz.ntmps169;go_wp2_with fail;rw[HW.out];clear HW;(with_reducible refine (jgz G0.out.rs [123] (by decide) ⟨#[123]⟩ rfl).mono ?_);rintro e w1 ⟨b1,hr1⟩
  cases hq1:jbx T len [123] i with
  | error a =>
    rw[hq1] at hr1;obtain rfl:e=jbk a:=hr1;have hE:=H.out;(try simp only[hq1,ja7,ja4,ja9,ja5] at hE);cases hE;have BX:=jj (G0.out.bt.trans b1);clear b1 hq1;unfold jbk;go_wp2;exact ⟨rfl,BX.out,rfl⟩
  | ok z1 =>
    obtain ⟨⟨⟩,i1⟩:=z1;rw[hq1] at hr1;obtain ⟨rfl,hs1,hl1⟩:=hr1;dsimp only at hl1 hs1;have hE:=H.out;clear H;(try simp only[hq1,ja7,ja4,ja9,ja5] at hE);have H:=jj hE;clear hE;clear hq1;(try dsimp only);have G1:=jj (G0.out.next hs1 b1);clear hs1 b1 G0;go_wp2_with fail;(with_reducible refine (qend G1.out.rs (by omega)).mono ?_);rintro e w2 ⟨rfl,hd2⟩;have G2:=jj (G1.out.drawn hd2);clear hd2 G1;go_wp2_with fail
    go_loopw [6] (fun u wr=>∃(acc:List Nd) (j k':Nat),OwnN wr (W.heap.size+1) u acc∧QW p A n c len T W wr j∧(jaf (jj4 T E k' j) fun (l:List Nd) j2=>some (.ok (jbm (acc++l) (jao T ⟨i1,none⟩),j2)))=some R∧acc.length≤j∧i1≤j) (fun _ wr=>jhn p n wr)
    case atStart=>exact ⟨[],i1,k,OwnN.nil _ _,G2.out,H.out,Nat.zero_le _,Nat.le_refl _⟩
    case round =>
      clear G2 H;obtain ⟨acc,j,k',ho,hs,hsp,hl,hij⟩:=hrel;obtain ⟨wo,hwo⟩:∃wo,wo=wr:=⟨wr,rfl⟩;subst hwo;obtain ⟨A0,m0,d0,rfl,-⟩:=ho.nds;have Hleft:=jj hs.rs.left;have hjn:=hs.rs.ib;have HAL:=jj (show acc.length≤2000001 by omega);have G0:=jj hs;have O0:=jj ho;have H:=jj hsp;clear ho hs hsp
      cases k' with
      | zero=>cases H.out
      | succ k' =>
      by_cases hc:jbg T j=[125]
      · skip
        have hE:=H.out;clear H;unfold jj4 at hE;rw[if_pos hc] at hE;have H:=jj hE;clear hE;go_wp2_with fail;(with_reducible refine (jhh G0.out.rs [125] (by decide) ⟨#[125]⟩ rfl hc).mono ?_);rintro e w21 ⟨rfl,hs21,b21⟩;have G21:=jj (G0.out.next hs21 b21);have V1:=jj (O0.out.bt b21 HPL.out);clear O0;clear hs21 b21 G0;go_wp2_with fail;have hlen:=(V1.out.sl).len.1;have hac:=HAL.out;have HLs:=jj (qlist (V1.out.sl) (by omega) (jao T ⟨i1,none⟩));have V2:=jj ((V1.out.sl).listV (jao T ⟨i1,none⟩));(with_reducible refine (HLs.out).mono ?_);rintro e w22 ⟨rfl,b22⟩;have G22:=jj (G21.out.keep b22);have V3:=jj (V2.out.kept b22);clear V2;have V4:=jj (V1.out.below b22);clear V1;clear b22 G21;clear HLs;have hE:=H.out;clear H;simp only[ja7,List.append_nil] at hE;have H:=jj hE;clear hE;have hE:=H.out;clear H;cases hE;obtain ⟨⟨-,x0,x1,x2,x3,x4⟩,g0,g1,g2,g3,g4⟩:=G22.out.box;go_wp2;exact bodyPost_ret (jag rfl _ _ W.heap.size _ _ _ _ _ rfl (ja3 G22.out.box _ _ _ _ _)) rfl (G22.out.fin (by omega) V3.out)
      · skip
        have hE:=H.out;clear H;unfold jj4 at hE;rw[if_neg hc,loop_acc] at hE;have H:=jj hE;clear hE;have O1:=jj (show ∀X u r,NdV X (fun g=>wo.heap.size≤g) u r→NdV X (fun g=>W.heap.size+1≤g∧(Value.slice A0 m0 d0).ownBlock≠some g) u r from fun X u r h=>h.fresh O0.out G0.out.size);go_wp2_with fail;(with_reducible refine (jiz G0.out.rs [125] (by decide) ⟨#[125]⟩ rfl hc).mono ?_);rintro e w21 ⟨rfl,hs21,b21⟩;have HSR:=jj b21.size;have G21:=jj (G0.out.next hs21 b21);clear G0;have V1:=jj (O0.out.bt b21 HPL.out);clear O0;clear hs21 b21;go_wp2_with fail;obtain ⟨r1,hr1,hr2⟩:=jbt H.out;clear H;have H:=jj hr2;clear hr2;have HR1:=jj hr1;(with_reducible refine (HEl.out.el _ _ _ G21.out.rs hr1).mono ?_);rintro e w22 ⟨b22,hr22⟩
        cases hq22:r1 with
        | error a =>
          rw[hq22] at hr22;obtain rfl:e=jbk a:=hr22;have hE:=H.out;rw[hq22] at hE;cases hE;have BX:=jj (G21.out.bt.trans b22);clear b22 hq22;unfold jbk;go_wp2;exact ⟨rfl,BX.out,rfl⟩
        | ok z22 =>
          obtain ⟨y,i22⟩:=z22;rw[hq22] at hr22;obtain ⟨⟨qA22,qm22,qd22,rfl,hv22⟩,hs22,hl22⟩:=hr22;dsimp only at hl22 hs22 hv22;have hE:=H.out;rw[hq22] at hE;have H:=jj (show (jaf (jj4 T E k' i22) fun (l:List Nd) j2=>some (.ok (jbm ((acc++[y])++l) (jao T ⟨i1,none⟩),j2)))=some R from hE);clear hE;have HQE:=jj hq22;clear hq22;(try dsimp only);have V2:=jj (hv22.wide (B':=wo.heap.size) HSR.out);have G22:=jj (G21.out.next hs22 b22);have V3:=jj (V1.out.bt b22 HPL.out);clear V1;clear hs22 b22 G21 hv22;have HQI:=jj (HLt.out _ _ _ (HR1.out.trans (congrArg some HQE.out)));clear HR1 HQE;clear hr1;have V4:=jj (O1.out _ _ _ V2.out);clear V2;go_wp2_with (at_builtin;refine jc5 rfl (.tmp 14) (.tmp 18) 23 rfl i0 _ 64 Tryz.underlying23 hi0 hz0 hz1 hz2 rfl (W.heap.size+1) (.slice A0 m0 d0) acc rfl w22 _ _ _ _ _ y V3.out G22.out.size _ rfl rfl V4.out (by have:=HAL.out;omega) (by have:=HAL.out;unfold maxLen;omega) ?_);intro v23 w23 ho23 b23 far23;obtain ⟨qA23,qm23,qd23,rfl,-⟩:=ho23.nds;have G23:=jj (G22.out.push b23);have V5:=jj ho23;clear b23 ho23 far23 V4 V3 G22;have Hl2:=jj (G23.out.rs.left);go_wp2;go_roundw
          case rel=>exact ⟨acc++[y],i22,k',V5.out,G23.out,H.out,by have:=HQI.out;simp only[List.length_append,List.length_cons,List.length_nil];omega,by have:=HQI.out;omega⟩
          case measure=>show jhn p n _<jhn p n _;rw[Hl2.out,Hleft.out];have:=HQI.out;have:=G23.out.rs.ib;omega
end
end
section
open Go.RowKit
section
variable {W:World} {p:Nat} {A:Option Addr} {n c:Nat} {len:Int} {T:List Tk} {i:Nat}
def CV (p:Nat) (A:Option Addr) (n c:Nat) (len:Int) (T:List Tk) (i:Nat) (R:Oc Nd):NT→Prop
  | .decl=>∀W,QS W p A n c len T i→Calls Tryz.prog 63 #[.pointer (some ⟨p,0,none⟩)] W (jgh p A n c len T W i R)
  | .classD=>∀W,QS W p A n c len T i→Calls Tryz.prog 114 #[.pointer (some ⟨p,0,none⟩)] W (jgh p A n c len T W i R)
  | .ifaceD=>∀W,QS W p A n c len T i→Calls Tryz.prog 115 #[.pointer (some ⟨p,0,none⟩)] W (jgh p A n c len T W i R)
  | .funcD true=>∀W,QS W p A n c len T i→Calls Tryz.prog 116 #[.pointer (some ⟨p,0,none⟩)] W (jgh p A n c len T W i R)
  | .funcD false=>∀W,QS W p A n c len T i→Calls Tryz.prog 205 #[.pointer (some ⟨p,0,none⟩)] W (jgh p A n c len T W i R)
  | .varD=>∀W,QS W p A n c len T i→Calls Tryz.prog 117 #[.pointer (some ⟨p,0,none⟩)] W (jgh p A n c len T W i R)
  | .block=>∀W,QS W p A n c len T i→Calls Tryz.prog 119 #[.pointer (some ⟨p,0,none⟩)] W (jgh p A n c len T W i R)
  | .stmt=>∀W,QS W p A n c len T i→Calls Tryz.prog 72 #[.pointer (some ⟨p,0,none⟩)] W (jgh p A n c len T W i R)
  | .unary=>∀W,QS W p A n c len T i→Calls Tryz.prog 174 #[.pointer (some ⟨p,0,none⟩)] W (jgh p A n c len T W i R)
  | .primary=>∀W,QS W p A n c len T i→Calls Tryz.prog 221 #[.pointer (some ⟨p,0,none⟩)] W (jgh p A n c len T W i R)
  | .expr l=>l≤6→∀z:Int,z=(l:Int)+1→∀W,QS W p A n c len T i→Calls Tryz.prog 118 #[.pointer (some ⟨p,0,none⟩),.int .i64 z] W (jgh p A n c len T W i R)
  | _=>True
def IHQ (p:Nat) (A:Option Addr) (n c:Nat) (len:Int) (T:List Tk) (f:Nat):Prop:=∀(nt:NT) (i:Nat) (R:Oc Nd),jbc T len f nt i=some R→CV p A n c len T i R nt
theorem jhw {f:Nat} {nt:NT} (hs:strictP nt=true) {x:Nd} {j:Nat} (h:jbc T len f nt i=some (.ok (x,j))):i<j:=by
  unfold jbc at h
  cases hr:jaw T len f nt ⟨i,none⟩ with
  | none=>rw[hr] at h;cases h
  | some r =>
    obtain ⟨y,q,b⟩:=r;rw[hr] at h
    cases b with
    | some a=>cases h
    | none =>
      cases h;have:=((jep hr).2 hs).lt rfl;unfold jh5 at this;simp at this;have h2:=((jep hr).1.inb);dsimp only at h2;show i<q;omega
theorem jlq {x:List UInt8} {j:Nat} (h:jeb T len i=.ok (x,j)):i<j:=by
  unfold jeb at h;split at h
  · cases h;omega
  · cases h
theorem jg4 {x:List UInt8} {u:Unit} {j:Nat} (h:jbx T len x i=.ok (u,j)):i<j:=by
  unfold jbx at h;split at h
  · cases h;omega
  · cases h
theorem tynmO_lt {x:List UInt8} {j:Nat} (h:jjn T len i=.ok (x,j)):i<j:=by
  unfold jjn at h
  cases h1:jeb T len i with
  | error a=>rw[h1] at h;cases h
  | ok y =>
    obtain ⟨y,q⟩:=y;have l1:=jlq h1;rw[h1] at h;simp only[ja9] at h;split at h
    · cases h2:jeb T len (q+1) with
      | error a=>rw[h2] at h;cases h
      | ok z=>obtain ⟨z,r⟩:=z;have l2:=jlq h2;rw[h2] at h;cases h;omega
    · cases h;exact l1
theorem typO_lt {x:Nd} {j:Nat} (h:typO T len i=.ok (x,j)):i<j:=by
  unfold typO at h;split at h
  · cases h;omega
  · cases h1:jjn T len i with
    | error a=>rw[h1] at h;cases h
    | ok y=>obtain ⟨y,q⟩:=y;have l1:=tynmO_lt h1;rw[h1] at h;cases h;exact l1
theorem superO_lt {x:Nd} {j:Nat} (h:jjp T len i=.ok (x,j)):i<j:=by
  unfold jjp at h;split at h
  · cases h;omega
  · exact typO_lt h
theorem paramO_lt {x:Nd} {j:Nat} (h:jg0 T len i=.ok (x,j)):i<j:=by
  unfold jg0 at h;split at h
  · cases h;omega
  · cases h1:jeb T len i with
    | error a=>rw[h1] at h;cases h
    | ok y =>
      obtain ⟨y,q⟩:=y;have l1:=jlq h1;rw[h1] at h;simp only[ja9] at h
      cases h2:jbx T len [58] q with
      | error a=>rw[h2] at h;cases h
      | ok z =>
        obtain ⟨z,q2⟩:=z;have l2:=jg4 h2;rw[h2] at h;simp only[ja9] at h
        cases h3:typO T len q2 with
        | error a=>rw[h3] at h;cases h
        | ok t=>obtain ⟨t,q3⟩:=t;have l3:=typO_lt h3;rw[h3] at h;cases h;omega
theorem holderO_lt {x:Nd} {j:Nat} (h:jfe T len i=.ok (x,j)):i<j:=by
  unfold jfe at h;split at h
  · cases h1:jbx T len [59] (i+1) with
    | error a=>rw[h1] at h;cases h
    | ok y=>obtain ⟨y,q⟩:=y;have l1:=jg4 h1;rw[h1] at h;cases h;omega
  · split at h
    · cases h1:jbx T len [59] (i+1) with
      | error a=>rw[h1] at h;cases h
      | ok y=>obtain ⟨y,q⟩:=y;have l1:=jg4 h1;rw[h1] at h;cases h;omega
    · cases h
theorem memQ_lt {f:Nat} {cls:Bool} {x:Nd} {j:Nat} (h:jm2 T len (jbc T len f) cls i=some (.ok (x,j))):i<j:=by
  unfold jm2 at h;split at h
  · exact jhw rfl h
  · split at h
    · exact jhw rfl h
    · injection h with h;exact holderO_lt h
theorem argQ_lt {f:Nat} {x:Nd} {j:Nat} (h:argQ T len (jbc T len f) i=some (.ok (x,j))):i<j:=by
  unfold argQ at h;split at h
  · cases h;omega
  · exact jhw rfl h
theorem runv_typ (xs:Array Value) (W:World):(callFunc 167 xs).run Tryz.prog W=.ok (.enter 167 xs) W:=by kernel_rfl
theorem runv_super (xs:Array Value) (W:World):(callFunc 204 xs).run Tryz.prog W=.ok (.enter 204 xs) W:=by kernel_rfl
theorem runv_param (xs:Array Value) (W:World):(callFunc 207 xs).run Tryz.prog W=.ok (.enter 207 xs) W:=by kernel_rfl
theorem runv_cmem (xs:Array Value) (W:World):(callFunc 170 xs).run Tryz.prog W=.ok (.enter 170 xs) W:=by kernel_rfl
theorem runv_imem (xs:Array Value) (W:World):(callFunc 171 xs).run Tryz.prog W=.ok (.enter 171 xs) W:=by kernel_rfl
theorem runv_arg (xs:Array Value) (W:World):(callFunc 235 xs).run Tryz.prog W=.ok (.enter 235 xs) W:=by kernel_rfl
theorem runv_stmt (xs:Array Value) (W:World):(callFunc 72 xs).run Tryz.prog W=.ok (.enter 72 xs) W:=by kernel_rfl
theorem runv_block (xs:Array Value) (W:World):(callFunc 119 xs).run Tryz.prog W=.ok (.enter 119 xs) W:=by kernel_rfl
theorem runv_expr (xs:Array Value) (W:World):(callFunc 71 xs).run Tryz.prog W=.ok (.enter 71 xs) W:=by kernel_rfl
theorem el_typ:ElQ p A n c len T 167 fun q=>some (typO T len q):=⟨runv_typ,fun X j R hX h=>by cases h;exact qtyp hX⟩
theorem el_super:ElQ p A n c len T 204 fun q=>some (jjp T len q):=⟨runv_super,fun X j R hX h=>by cases h;exact qsuper hX⟩
theorem el_param:ElQ p A n c len T 207 fun q=>some (jg0 T len q):=⟨runv_param,fun X j R hX h=>by cases h;exact qparam hX⟩
theorem jb0 {y x:List UInt8} (h:¬y=x):((bs y).toList==x)=false:=by
  rw[Lib.toList_data,jac];exact beq_eq_false_iff_ne.2 h
theorem jda {y x:List UInt8} (h:y=x):((bs y).toList==x)=true:=by
  rw[Lib.toList_data,jac,h];simp
theorem qexpr {f:Nat} (ih:IHQ p A n c len T f) (hrs:QS W p A n c len T i) {R:Oc Nd} (hR:jbc T len f (.expr 0) i=some R):Calls Tryz.prog 71 #[.pointer (some ⟨p,0,none⟩)] W (jgh p A n c len T W i R):=by
  have HC:=jj (ih _ _ _ hR (Nat.zero_le _) 1 rfl);clear hR ih;have h0:=QW.start hrs;obtain ⟨w0,hw0⟩:=jx (W.alloc (.cells #[.int .i64 0,.string ⟨#[]⟩,.int .i64 0,.int .i64 0,.slice none 0 0] 25));rw[hw0] at h0;have G0:=jj h0;have HW:=jj hw0;have HPL:=jj (show p<W.heap.size+1 by have:=hrs.st.lt;omega);clear h0 hw0;clear hrs;go_enter Tryz.func71,Tryz.ntmps71;go_wp2_with fail;rw[HW.out];clear HW;(with_reducible refine (HC.out _ G0.out.rs).mono ?_);rintro e w1 ⟨b1,hr1⟩
  cases R with
  | error a =>
    obtain rfl:e=jbk a:=hr1;have BX:=jj (G0.out.bt.trans b1);clear b1;unfold jbk;go_wp2;exact ⟨rfl,BX.out,rfl⟩
  | ok z =>
    obtain ⟨y,q⟩:=z;obtain ⟨⟨qA1,qm1,qd1,rfl,hv1⟩,hs1,hl1⟩:=hr1;dsimp only at hl1 hs1 hv1 ⊢;have V1:=jj (hv1.wide (B':=W.heap.size+1) G0.out.size);have G1:=jj (G0.out.next hs1 b1);clear hs1 b1 hv1 G0;obtain ⟨⟨-,x0,x1,x2,x3,x4⟩,g0,g1,g2,g3,g4⟩:=G1.out.box;go_wp2;exact bodyPost_ret (jag rfl _ _ W.heap.size _ _ _ _ _ rfl (ja3 G1.out.box _ _ _ _ _)) rfl (G1.out.fin (by omega) V1.out)
theorem qarg {f:Nat} (ih:IHQ p A n c len T f) (hrs:QS W p A n c len T i) {R:Oc Nd} (hR:argQ T len (jbc T len f) i=some R):Calls Tryz.prog 235 #[.pointer (some ⟨p,0,none⟩)] W (jgh p A n c len T W i R):=by
  have hn:=hrs.tks.1;unfold argQ at hR;by_cases hk:kT T i=7
  · have HK:=jj (fun X (hX:QS X p A n c len T i)=>show Calls Tryz.prog 123 #[.pointer (some ⟨p,0,none⟩)] X fun e w'=>e=.returned (.int .i64 7)∧X=w' by have:=ji5 hX;rw[hk] at this;exact this);(have hlt:i<n:=by have:=jl2 (T:=T) (j:=i) (by omega);omega);rw[if_pos hk] at hR;cases hR;clear hk ih;have h0:=QW.start hrs;obtain ⟨w0,hw0⟩:=jx (W.alloc (.cells #[.int .i64 0,.string ⟨#[]⟩,.int .i64 0,.int .i64 0,.slice none 0 0] 25));rw[hw0] at h0;have G0:=jj h0;have HW:=jj hw0;have HPL:=jj (show p<W.heap.size+1 by have:=hrs.st.lt;omega);clear h0 hw0;clear hrs hn;go_enter Tryz.func235,Tryz.ntmps235;go_wp2_with fail;rw[HW.out];clear HW;(with_reducible refine (HK.out _ G0.out.rs).mono ?_);rintro e wx ⟨rfl,rfl⟩;go_wp2_with fail;(with_reducible refine (qleaf G0.out.rs hlt 26).mono ?_);rintro e w1 ⟨b1,⟨qA1,qm1,qd1,rfl,hv1⟩,hs1,-⟩;have V1:=jj (hv1.wide (B':=W.heap.size+1) G0.out.size);have G1:=jj (G0.out.next hs1 b1);clear hs1 b1 hv1 G0
    skip
    obtain ⟨⟨-,x0,x1,x2,x3,x4⟩,g0,g1,g2,g3,g4⟩:=G1.out.box;go_wp2;exact bodyPost_ret (jag rfl _ _ W.heap.size _ _ _ _ _ rfl (ja3 G1.out.box _ _ _ _ _)) rfl (G1.out.fin (Nat.le_succ i) V1.out)
  · rw[if_neg hk] at hR;have HC:=jj (fun X hX=>qexpr (W:=X) ih hX hR);have HK:=jj (fun X (hX:QS X p A n c len T i)=>ji5 hX);obtain ⟨K,hKe⟩:=jx (kT T i);rw[hKe] at HK;rw[hKe] at hk;have e0:(K==7)=false:=beq_eq_false_iff_ne.2 hk;have h0:=QW.start hrs;obtain ⟨w0,hw0⟩:=jx (W.alloc (.cells #[.int .i64 0,.string ⟨#[]⟩,.int .i64 0,.int .i64 0,.slice none 0 0] 25));rw[hw0] at h0;have G0:=jj h0;have HW:=jj hw0;have HPL:=jj (show p<W.heap.size+1 by have:=hrs.st.lt;omega);clear h0 hw0;clear hrs hn hR hk hKe ih;go_enter Tryz.func235,Tryz.ntmps235;go_wp2_with fail;rw[HW.out];clear HW;(with_reducible refine (HK.out _ G0.out.rs).mono ?_);rintro e wx ⟨rfl,rfl⟩;go_wp2_with fail;(with_reducible refine (HC.out _ G0.out.rs).mono ?_);rintro e w1 ⟨b1,hr1⟩
    cases R with
    | error a =>
      obtain rfl:e=jbk a:=hr1;have BX:=jj (G0.out.bt.trans b1);clear b1;unfold jbk;go_wp2;exact ⟨rfl,BX.out,rfl⟩
    | ok z =>
      obtain ⟨y,q⟩:=z;obtain ⟨⟨qA1,qm1,qd1,rfl,hv1⟩,hs1,hl1⟩:=hr1;dsimp only at hl1 hs1 hv1 ⊢;have V1:=jj (hv1.wide (B':=W.heap.size+1) G0.out.size);have G1:=jj (G0.out.next hs1 b1);clear hs1 b1 hv1 G0;obtain ⟨⟨-,x0,x1,x2,x3,x4⟩,g0,g1,g2,g3,g4⟩:=G1.out.box;go_wp2;exact bodyPost_ret (jag rfl _ _ W.heap.size _ _ _ _ _ rfl (ja3 G1.out.box _ _ _ _ _)) rfl (G1.out.fin (by omega) V1.out)
end
end
end Go.Proofs.YtonoklmobocikaaGreatDoor
