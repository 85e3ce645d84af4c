/- Lemmas. -/
import Derived.Test.YtonoklmobocikaaGreatDoorK39
set_option linter.unusedVariables false
set_option linter.unusedSimpArgs false
set_option maxRecDepth 20000
set_option maxHeartbeats 6400000
namespace Go.Proofs.YtonoklmobocikaaGreatDoor
section
open Go.RowKit
theorem StrS.put {w:World} {b:Nat} {u0 u1 u2 u3 u4:Value} {B:Nat} {A:Option Addr} {n c:Nat} {l:List (List UInt8)} (h:StrS w B A n c l) (hb:b<B):StrS (jex w b u0 u1 u2 u3 u4) B A n c l :=
  ⟨h.1,h.2.1,h.2.2.1,fun i x hx=>by
    obtain ⟨g,hA,hg,hc⟩:=h.2.2.2 i x hx
    exact ⟨g,hA,hg,(jd1 (p:=⟨g,i,none⟩) (show g≠b by omega)).trans hc⟩⟩
theorem StrS.bt {w w':World} {p B:Nat} {A:Option Addr} {n c:Nat} {l:List (List UInt8)} (h:StrS w B A n c l) (hb:Bt p w w') (hp:p<B):StrS w' B A n c l :=
  ⟨h.1,h.2.1,h.2.2.1,fun i x hx=>by
    obtain ⟨g,hA,hg,hc⟩:=h.2.2.2 i x hx
    exact ⟨g,hA,hg,(hb.cell (q:=⟨g,i,none⟩) (World.block_lt_of_cell? _ _ hc) (show g≠p by omega)).trans hc⟩⟩
def opF (T:List Tk) (s:Ps) (l:List (List UInt8)):List UInt8:=l.foldl (fun o x=>if isP T 5 x s=true then x else o) []
theorem opF_snoc (T:List Tk) (s:Ps) (l:List (List UInt8)) (x:List UInt8):opF T s (l++[x])=if isP T 5 x s=true then x else opF T s l:=by unfold opF;rw[List.foldl_append];try rfl
theorem take_str {l:List (List UInt8)} {i:Nat} {y:List UInt8} (h:l[i]?=some y):l.take (i+1)=l.take i++[y]:=by
  obtain ⟨h1,e⟩:=List.getElem?_eq_some_iff.1 h;rw[List.take_succ_eq_append_getElem h1,e]
section
variable {p:Nat} {A:Option Addr} {n c:Nat} {len:Int} {T:List Tk} {f:Nat}
set_option maxHeartbeats 25600000 in
theorem c_expr (ih:IH p A n c len T f) {lvl:Nat} {s s':Ps} {x:Nd} (h:jl7 (jaw T len f) lvl s=some (x,s')):CN p A n c len T s x s' (.expr lvl):=by
  intro hl6 z hz W hrs;subst hz;have hn6:=hrs.n6;unfold jl7 at h;by_cases h6:6≤lvl
  · rw[if_pos h6] at h;(obtain rfl:lvl=6:=by omega);have HX:=jj (fun X hX=>ih _ _ _ _ h X hX);have h0:=RW.start hrs;obtain ⟨w0,hw0⟩:=jx (W.alloc (.cells #[.int .i64 0,.string ⟨#[]⟩,.int .i64 0,.int .i64 0,.slice none 0 0] 25));rw[hw0] at h0;have G0:=jj h0;have HW:=jj hw0;have HPL:=jj (show p<W.heap.size+1 by have:=hrs.st.lt;omega);clear h0 hw0;clear h hrs;go_enter Tryz.func40,Tryz.ntmps40;go_wp2_with fail;rw[HW.out];clear HW;(with_reducible refine (HX.out _ G0.out.rs).mono ?_);intro e w1 h1;have b1:=h1.bt;obtain ⟨qA1,qm1,qd1,rfl,hv1,hw1⟩:=h1.new G0.out;clear h1;have G1:=jj hw1;have V1:=jj hv1;clear b1 hv1 hw1 G0;obtain ⟨⟨-,x0,x1,x2,x3,x4⟩,g0,g1,g2,g3,g4⟩:=G1.out.box;go_wp2;exact bodyPost_ret (jag rfl _ _ W.heap.size _ _ _ _ _ rfl (ja3 G1.out.box _ _ _ _ _)) rfl (G1.out.fin V1.out)
  · rw[if_neg h6] at h;obtain ⟨q0,s1,h1,h2⟩:=ja2.1 h;have HX0:=jj (fun X hX=>ih _ _ _ _ h1 (by omega) ((lvl:Int)+1) (by omega) X hX);have HR:=jj h2;have e6:((lvl:Int)==6)=false:=beq_eq_false_iff_ne.2 (by omega);(have hl5:lvl≤5:=by omega);have h0:=RW.start hrs;obtain ⟨w0,hw0⟩:=jx (W.alloc (.cells #[.int .i64 0,.string ⟨#[]⟩,.int .i64 0,.int .i64 0,.slice none 0 0] 25));rw[hw0] at h0;have G0:=jj h0;have HW:=jj hw0;have HPL:=jj (show p<W.heap.size+1 by have:=hrs.st.lt;omega);clear h0 hw0;clear h h1 h2 hrs h6;go_enter Tryz.func40,Tryz.ntmps40;go_wp2_with fail;rw[HW.out];clear HW;(with_reducible refine (HX0.out _ G0.out.rs).mono ?_);intro e w1 h1;have b1:=h1.bt;obtain ⟨qA1,qm1,qd1,rfl,hv1,hw1⟩:=h1.new G0.out;clear h1;have G1:=jj hw1;have V1:=jj hv1;clear b1 hv1 hw1 G0;have hq0:=(V1.out.map (fun _ _ _=>rfl) (fun g hg hlt=>(⟨hg,Nat.ne_of_lt hlt⟩:W.heap.size+1≤g∧g≠w1.heap.size)));have HQ0:=jj hq0;clear hq0 V1;go_wp2_with fail;have bl2:=jak (Below.refl _ w1) (.cells #[.int .i64 q0.kind,.string (bs q0.text),.int .i64 q0.at_,.int .i64 q0.en,.slice qA1 qm1 qd1] 25);have hF2:=jae w1 (.int .i64 q0.kind) (.string (bs q0.text)) (.int .i64 q0.at_) (.int .i64 q0.en) (.slice qA1 qm1 qd1) 25;have SZb:=jj (show W.heap.size+1≤w1.heap.size from G1.out.size);have NE2:=jj (show w1.heap.size≠p by have:=G1.out.size;have:=G1.out.lt;omega);obtain ⟨w2,hw2⟩:=jx (w1.alloc (.cells #[.int .i64 q0.kind,.string (bs q0.text),.int .i64 q0.at_,.int .i64 q0.en,.slice qA1 qm1 qd1] 25));(have hsz2:w1.heap.size+1≤w2.heap.size:=by rw[←hw2];simp);rw[hw2] at bl2 hF2 ⊢;clear hw2;have HQ1:=jj (HQ0.out.kept bl2);have SZ2:=jj (show w1.heap.size+1≤w2.heap.size from hsz2);clear hsz2;have G2:=jj (G1.out.keep bl2);have F2:=jj hF2;clear bl2 hF2 G1;(with_reducible refine (rops lvl w2 (w1.heap.size+1) (SZ2.out)).mono ?_);rintro e w10 ⟨A6,n6,c6,rfl,hss,b10⟩;have G10:=jj (G2.out.keep b10);have F10:=jj (F2.out.keep b10);have V10:=jj (HQ1.out.kept b10);have SS:=jj hss;(have hbk:p<w1.heap.size:=by have:=G2.out.lt;have:=SZb.out;omega);have HNE:=NE2;have hnc6:=hss.1;have hcc6:=hss.2.1;clear hss b10 G2 F2 HQ1;go_wp2_with fail;obtain ⟨bx,hbx⟩:=jx (w1.heap.size);rw[hbx] at F10 V10 SS HNE hbk ⊢;have HBX:=jj (show W.heap.size+1≤bx by rw[←hbx];exact SZb.out);clear hbx
    go_loopw [] (fun wr=>∃(q:Nd) (B:Option Addr) (m d:Nat) (sc:Ps) (g:Nat),FiveF wr bx (.int .i64 q.kind) (.string (bs q.text)) (.int .i64 q.at_) (.int .i64 q.en) (.slice B m d)∧NdV wr (fun g=>W.heap.size+1≤g∧g≠bx) (.agg #[.int .i64 q.kind,.string (bs q.text),.int .i64 q.at_,.int .i64 q.en,.slice B m d]) q∧RW p A n c len T W wr sc∧StrS wr (bx+1) A6 n6 c6 (jkl lvl)∧g≤f∧jaw T len g (.binRest lvl q) sc=some (x,s')) (fun wr=>jdt p n wr)
    case atStart=>exact ⟨q0,_,_,_,s1,f,F10.out,V10.out,G10.out,SS.out,Nat.le_refl _,HR.out⟩
    case round =>
      clear G10 F10 V10 SS HR;obtain ⟨q,B,m,d,sc,g,hF,hV,hw,hss,hg,hr⟩:=hrel;obtain ⟨wo,hwo⟩:∃wo,wo=wr:=⟨wr,rfl⟩;subst hwo
      cases g with
      | zero=>cases hr
      | succ g =>
      have hr:bBin T (jaw T len g) lvl q sc=some (x,s'):=hr;unfold bBin at hr;have Hleft:=jj hw.rs.left;have G0:=jj hw;have F0:=jj hF;have V0:=jj hV;have SS:=jj hss;have F0sz:=jj hF.1.1;(have hgf:g≤f:=by omega);obtain ⟨k0,k1,k2,k3,k4⟩:=hw.rs.cells;clear hF hV hw
      cases hb:sc.bad with
      | some bb =>
        rw[if_pos (Or.inl (by rw[hb];rfl))] at hr;obtain ⟨rfl,rfl⟩:=jap hr;rw[hb] at k3 k4;simp only[Option.isSome] at k3;clear hr hb hss;obtain ⟨⟨-,y0,y1,y2,y3,y4⟩,-⟩:=F0.out;obtain ⟨⟨-,x0,x1,x2,x3,x4⟩,g0,g1,g2,g3,g4⟩:=G0.out.box;go_wp2;exact bodyPost_ret (jag rfl _ _ W.heap.size _ _ _ _ _ rfl (ja3 G0.out.box _ _ _ _ _)) rfl (G0.out.fin (V0.out.map (fun _ _ _=>rfl) fun g hg _=>hg.1))
      | none =>
        rw[hb] at k3 k4;simp only[Option.isSome] at k3;have HO:=jj (show opF T sc (jkl lvl)=opP T lvl sc from rfl);have hln:=hss.2.2.1;have HLn:=jj hln;have Hr:=jj hr;have Hb:=jj hb;have HIS:=jj (fun X (hX:Drawn wo X) (y:List UInt8)=>ris (G0.out.rs.drawn hX) 5 (by decide) y (bs y) rfl);clear hr hb hss hln;go_wp2_with fail
        go_loopw [7,8] (fun u v wr=>∃i:Nat,i≤n6∧v=.int .i64 (i:Int)∧u=.string (bs (opF T sc ((jkl lvl).take i)))∧Drawn wo wr) (fun _ v _=>n6 - (intOf v).toNat)
        case atStart=>exact ⟨0,Nat.zero_le _,rfl,rfl,Drawn.refl _⟩
        case round =>
          obtain ⟨i,hi,rfl,rfl,hd⟩:=hrel;obtain ⟨w5,hw5⟩:∃w5,w5=wr:=⟨wr,rfl⟩;subst hw5;by_cases hlt:i<n6
          · (have hlti:(i:Int)<(n6:Int):=by omega);(have d0:(0:Int)≤(i:Int):=by omega);obtain ⟨y,hy⟩:∃y,(jkl lvl)[i]?=some y:=⟨_,List.getElem?_eq_getElem (by rw[HLn.out];exact hlt)⟩;obtain ⟨g6,rfl,-,hc⟩:=SS.out.2.2.2 i y hy;have hc5:=(hd.cell ⟨g6,i,none⟩).trans hc;have HS:=jj (take_str hy);have HC:=jj (HIS.out w5 hd y);obtain ⟨O,hO⟩:=jx (opF T sc ((jkl lvl).take i));have HE:=jj (show opF T sc ((jkl lvl).take (i+1))=if isP T 5 y sc=true then y else O by rw[HS.out,opF_snoc,hO]);rw[hO];have Hd:=jj hd;clear hy hO hd HS
            cases hq:isP T 5 y sc with
            | true =>
              rw[hq] at HC HE;clear hq;go_wp2_with fail;(with_reducible refine HC.out.mono ?_);rintro e w6 ⟨rfl,hd6⟩;have Hd6:=jj hd6;have hc6:=(hd6.cell ⟨g6,i,none⟩).trans hc5;clear hd6 hc hc5;go_wp2;go_roundw
              case rel=>exact ⟨i+1,by omega,by go_num,by rw[HE.out];rfl,by obtain ⟨m1,h1⟩:=Hd.out;obtain ⟨m2,h2⟩:=Hd6.out;exact ⟨m1+m2,by rw[h2,h1];simp⟩⟩
              case measure=>simp[intOf];omega
            | false =>
              rw[hq] at HC HE;clear hq;go_wp2_with fail;(with_reducible refine HC.out.mono ?_);rintro e w6 ⟨rfl,hd6⟩;have Hd6:=jj hd6;clear hd6 hc hc5;go_wp2;go_roundw
              case rel=>exact ⟨i+1,by omega,by go_num,by rw[HE.out];rfl,by obtain ⟨m1,h1⟩:=Hd.out;obtain ⟨m2,h2⟩:=Hd6.out;exact ⟨m1+m2,by rw[h2,h1];simp⟩⟩
              case measure=>simp[intOf];omega
          · (have hlti:¬(i:Int)<(n6:Int):=by omega);(have hfull:opF T sc ((jkl lvl).take i)=opP T lvl sc:=by rw[List.take_of_length_le (by rw[HLn.out];omega)];exact HO.out);rw[hfull];have hr:=Hr.out;have G1:=jj (G0.out.drawn hd);have F1:=jj (F0.out.keep (hd.below _));have V1:=jj (V0.out.kept (hd.below _));have SS1:=jj (SS.out.kept (hd.below _));have HSZ:=jj (hd.below 0).size;obtain ⟨k0,k1,k2,k3,k4⟩:=G1.out.rs.cells;obtain ⟨f1,-,-⟩:=G1.out.rs.frees;clear G0 F0 V0 SS hd hfull HIS;by_cases hop:opP T lvl sc=[]
            · rw[if_pos (Or.inr hop)] at hr;obtain ⟨rfl,rfl⟩:=jap hr;rw[hop];(have hz2:(bs []).toList.isEmpty=true:=by rw[Lib.toList_data,jac];rfl);(have hz3:((bs []).toList==[])=true:=by rw[Lib.toList_data,jac];rfl);clear hr hop;obtain ⟨⟨-,y0,y1,y2,y3,y4⟩,-⟩:=F1.out;obtain ⟨⟨-,x0,x1,x2,x3,x4⟩,g0,g1,g2,g3,g4⟩:=G1.out.box;go_wp2;exact bodyPost_ret (jag rfl _ _ W.heap.size _ _ _ _ _ rfl (ja3 G1.out.box _ _ _ _ _)) rfl (G1.out.fin (V1.out.map (fun _ _ _=>rfl) fun g hg _=>hg.1))
            · rw[if_neg (by rw[Hb.out];simpa using hop)] at hr;obtain ⟨b,s2,h3,h4⟩:=ja2.1 hr;have hin:=op_in hop;obtain ⟨xo,-,hxo,-⟩:=hin;have hki:=jh6 (jj5 (by decide) hxo);(have hsi:sc.i<n:=by have:=hki.2;have:=G1.out.rs.tks.1;omega);have Hadv:=jj ((jfj (by decide) hxo).trans ((jep h3).2 rfl));obtain ⟨O,hO⟩:=jx (opP T lvl sc);rw[hO] at h4 hop ⊢;have HX:=jj (fun X hX=>ih _ _ _ _ (jef h3 hgf) (by omega) ((lvl:Int)+1) (by omega) X hX);have HQ:=jj h4
              have hz2:(bs O).toList.isEmpty=false:=by
                rw[Lib.toList_data,jac]
                cases O with
                | nil=>exact absurd rfl hop
                | cons a l=>rfl
              have hz3:((bs O).toList==[])=false:=by
                rw[Lib.toList_data,jac]
                cases O with
                | nil=>exact absurd rfl hop
                | cons a l=>rfl
              obtain ⟨w7,hw7⟩:=jx (w5.setCell ⟨p,1,none⟩ (.int .i64 ((sc.i:Int)+1)));have hst:=Bt.set w5 p 1 (.int .i64 ((sc.i:Int)+1));have hrn:=G1.out.rs.next hsi;rw[hw7] at hst hrn;have G7:=jj (G1.out.next hrn hst);have F7:=jj (F1.out.bt hst HNE.out);have V7:=jj (V1.out.bt hst (fun g hg=>by have:=HPL.out;omega));have S7:=jj (SS1.out.bt hst (by omega));have HW7:=jj hw7;have HSZ7:=jj hst.size;have hib:=G1.out.rs.ib;clear hr h3 h4 hop hO hxo hki hst hrn hw7 G1 F1 V1 SS1 Hr;go_wp2_with fail;rw[HW7.out];clear HW7 k0 k1 k2 k3 k4 f1;(with_reducible refine (HX.out _ G7.out.rs).mono ?_);intro e w21 h21;have b21:=h21.bt;obtain ⟨qA21,qm21,qd21,rfl,hv21,hs21,-⟩:=h21;have hw21:=G7.out.next hs21 b21;clear hs21;have G21:=jj hw21;have V1:=jj hv21;have V2:=jj (F7.out.bt b21 HNE.out);clear F7;have V3:=jj (V7.out.bt b21 (fun g hg=>by have:=HPL.out;omega));clear V7;have V4:=jj (S7.out.bt b21 (by omega));clear S7;clear b21 hv21 hw21 G7;have U0:=jj (V1.out.map (fun _ _ _=>rfl) (fun g hg _=>(⟨by have:=HBX.out;have:=HSZ.out;have:=HSZ7.out;have:=F0sz.out;omega,by have:=HSZ.out;have:=HSZ7.out;have:=F0sz.out;omega⟩:W.heap.size+1≤g∧g≠bx)));clear V1;go_upto_region 16 with fail;have bl22:=jak (Below.refl _ w21) (.cells #[.int .i64 b.kind,.string (bs b.text),.int .i64 b.at_,.int .i64 b.en,.slice qA21 qm21 qd21] 25);have hF22:=jae w21 (.int .i64 b.kind) (.string (bs b.text)) (.int .i64 b.at_) (.int .i64 b.en) (.slice qA21 qm21 qd21) 25;have NE22:=jj (show w21.heap.size≠p by have:=G21.out.size;have:=G21.out.lt;omega);obtain ⟨w22,hw22⟩:=jx (w21.alloc (.cells #[.int .i64 b.kind,.string (bs b.text),.int .i64 b.at_,.int .i64 b.en,.slice qA21 qm21 qd21] 25));rw[hw22] at bl22 hF22 ⊢;clear hw22;have G22:=jj (G21.out.keep bl22);have V5:=jj (V2.out.keep bl22);clear V2;have V6:=jj (V3.out.kept bl22);clear V3;have V7:=jj (V4.out.kept bl22);clear V4;have V8:=jj (U0.out.kept bl22);clear U0;have F22:=jj hF22;clear bl22 hF22 G21;obtain ⟨⟨-,y00,y01,y02,y03,y04⟩,-⟩:=V5.out;obtain ⟨⟨-,y10,y11,y12,y13,y14⟩,-⟩:=F22.out;go_wp2_with fail;have HOQ:=jj (ownQ_2 (w:=w22) (B:=W.heap.size+1) (q:=fun g=>W.heap.size+1≤g∧g≠bx) G22.out.size V6.out V8.out w22.heap.size rfl);have HSZK:=jj (show bx<w22.heap.size from V5.out.1.1);(with_reducible refine (jew (G22.out.more _).rs 23 q.at_ (bs O) _ 2 2).mono ?_);rintro e w23 ⟨rfl,b23⟩;have G23:=jj ((G22.out.more _).keep b23);have HO2:=jj (HOQ.out.below b23);have hbb:=bgo (jak (Below.refl _ w22) (.cells #[.int .i64 q.kind,.string (bs q.text),.int .i64 q.at_,.int .i64 q.en,.slice B m d,.int .i64 b.kind,.string (bs b.text),.int .i64 b.at_,.int .i64 b.en,.slice qA21 qm21 qd21] 25)) b23;have FB:=jj (V5.out.keep hbb);have SB:=jj (V7.out.kept hbb);clear b23 hbb G22 HOQ;obtain ⟨⟨-,x0,x1,x2,x3,x4⟩,g0,g1,g2,g3,g4⟩:=FB.out;go_wp2;have Hl2:=jj (RS.left (G23.out.push (jaj (Below.refl (W.heap.size+1) w23) HBX.out) (W':=jex w23 bx (.int .i64 23) (.string (bs O)) (.int .i64 q.at_) (.int .i64 (jao T s2)) (.slice (some ⟨w22.heap.size,0,none⟩) 2 2))).rs);go_roundw
              case rel =>
                refine ⟨je3 T 23 O q.at_ [q,b] s2,some ⟨w22.heap.size,0,none⟩,2,2,s2,g,jdw FB.out _ _ _ _ _,NdV.put (HO2.out.node _ (fun _ h=>h) (fun g h e=>⟨h,?_⟩) _ _ _ _),G23.out.push (jaj (Below.refl (W.heap.size+1) w23) HBX.out),SB.out.put (by omega),hgf,HQ.out⟩;simp only[Value.ownBlock,Option.some.injEq] at e;have:=HSZK.out;omega
              case measure =>
                show jdt p n (jex w23 bx _ _ _ _ _)<jdt p n _;rw[Hl2.out,Hleft.out];exact Hadv.out.lt (by rw[Hb.out];rfl)
end
end
end Go.Proofs.YtonoklmobocikaaGreatDoor
