/- Lemmas. -/
import Derived.Test.YtonoklmobocikaaGreatDoorK35
import Derived.Test.YtonoklmobocikaaGreatDoorK44
import Derived.Test.YtonoklmobocikaaGreatDoorK45
import Derived.Test.YtonoklmobocikaaGreatDoorK46
import Derived.Test.YtonoklmobocikaaGreatDoorK47
set_option linter.unusedVariables false
set_option linter.unusedSimpArgs false
set_option maxRecDepth 20000
set_option maxHeartbeats 6400000
namespace Go.Proofs.YtonoklmobocikaaGreatDoor
section
open Go.RowKit
section
variable {P:Program} {ops:Array Oper} {o:Oper} {a:Act} {K:Act→World→Prop} {Q:Exit→Act→World→Prop} {E:Prop}
theorem jmt (hgd:o.guard=none) (s x:Operand) (t:TypeId) (ho:o.op=.call { callee:=.builtin .append,args:=#[s,x],argTypes:=#[t,t] })
    (i:TypeInfo) (z:Value) (bytes:Nat) (ht:P.underlying t=some (.slice 25)) (hi:P.info? 25=some i) (hz:i.zero=some z) (hsize:i.size=5) (hby:i.bytes=bytes) (hzs:z.cells.size=5)
    (B:Nat) (v:Value) (xs:List Nd) (hs:a.eval s=v) (w0:World) (c0 c1 c2 c3 c4:Value) (r:Nd) (hown:OwnN w0 B v xs) (hB:B≤w0.heap.size) (H:Nat) (hH:H=w0.heap.size)
    (hx:a.eval x=.slice (some ⟨H,0,none⟩) 1 1) (hr:NdV w0 (fun g=>B≤g∧v.ownBlock≠some g) (.agg #[c0,c1,c2,c3,c4]) r) (hlen:(xs.length+1)*bytes≤140737488355328) (h63:xs.length+1≤maxLen)
    (h:∀g cap w',OwnN w' B (.slice (some ⟨g,0,none⟩) (xs.length+1) cap) (xs++[r])→Below B w0 w'→K (a.put o.dst (.slice (some ⟨g,0,none⟩) (xs.length+1) cap)) w') :
    if Region.wanted o (yielded ops a.tmps)=true then Oper.wp P o a (w0.alloc (.cells #[c0,c1,c2,c3,c4] 25)) K Q else E:=by
  subst hH;obtain ⟨cs,vs,hown,hvl,h3,h4⟩:=hown
  have hone:∀u∈[c0,c1,c2,c3,c4],u.oneCell'=true:=by
    obtain ⟨d0,d1,d2,d3,d4,e,h0,h1,h2,h3',h4'⟩:=hr.agg;injection e with e;injection e with e;simp only[List.cons.injEq,and_true] at e;obtain ⟨rfl,rfl,rfl,rfl,rfl⟩:=e;intro u hu;simp only[List.mem_cons,List.not_mem_nil,or_false] at hu;rcases hu with rfl | rfl | rfl | rfl | rfl<;>assumption
  refine step_append_lies _ hgd s x t ho B 25 i z 5 bytes ht hi hz hsize hby hzs (by decide) v xs.length cs hs (hown.alloc _) ⟨w0.heap.size,0,none⟩ 1 1 [c0,c1,c2,c3,c4] hx rfl (c1_five _ _ _ _ _ _ _) hone (by decide) h63 hlen (by simp;omega) (w0.heap.size+1) (by simp) ?_;intro g cap w' hown' hg hat0 _;obtain ⟨v',hv'⟩:=jx (Value.slice (some ⟨g,0,none⟩) (xs.length+1) cap);have hob:v'.ownBlock=some g:=by rw[←hv'];try rfl
  have hat:v'.ownBlock=v.ownBlock∨v'.ownBlock=some (w0.alloc (.cells #[c0,c1,c2,c3,c4] 25)).heap.size:=by
    rcases hat0 with h | h
    · exact Or.inl (hob.trans h.symm)
    · exact Or.inr (by rw[hob,h];simp)
  rw[hv'] at hown'
  have main:OwnN w' B v' (xs++[r])∧Below B w0 w':=by
    have hF:Far w0 w' v v':=by
      refine ⟨by have:=hg.size;simp at this;omega,fun g hlt hne=>⟨?_,?_⟩⟩
      · exact (hg.block g (by simp;omega) (fun e=>hne e.symm)).trans (((Below.refl w0.heap.size w0).alloc (Nat.le_refl _) _).block g hlt)
      · rcases hat with hat | hat
        · rw[hat];exact hne
        · rw[hat];intro e;injection e with e;simp at e;omega
    have hmap:∀(u:Value) (y:Nd),NdV w0 (fun g=>B≤g∧v.ownBlock≠some g) u y→NdV w' (fun g=>B≤g∧v'.ownBlock≠some g) u y:=fun u y hy =>
      hy.map (fun p hp hlt=>World.cell?_of_block (hF.2 p.block hlt hp.2).1) fun g hg hlt=>⟨hg.1,(hF.2 g hlt hg.2).2⟩
    have hcl:cs.length=xs.length*5:=hown.1;refine ⟨⟨cs++[c0,c1,c2,c3,c4],vs++[.agg #[c0,c1,c2,c3,c4]],by rw[List.length_append];exact hown',by simp[hvl],fun j u hu=>?_,fun j u y hu hy=>?_⟩,?_⟩
    · by_cases hj:j<vs.length
      · rw[List.getElem?_append_left hj] at hu;obtain ⟨d0,d1,d2,d3,d4,e,e0,e1,e2,e3,e4⟩:=h3 j u hu
        have key:∀(z:Nat) (d:Value),z<5→cs[j*5+z]?=some d→(cs++[c0,c1,c2,c3,c4])[j*5+z]?=some d:=fun z d hq hd=>by
          rw[List.getElem?_append_left (by omega)];exact hd
        exact ⟨d0,d1,d2,d3,d4,e,key 0 _ (by omega) e0,key 1 _ (by omega) e1,key 2 _ (by omega) e2,key 3 _ (by omega) e3,key 4 _ (by omega) e4⟩
      · rw[List.getElem?_append_right (by omega)] at hu
        have hj':j=vs.length:=by
          have:=(List.getElem?_eq_some_iff.1 hu).1;simp at this;omega
        subst hj';rw[Nat.sub_self] at hu;cases hu
        have key:∀z,z<5→(cs++[c0,c1,c2,c3,c4])[vs.length*5+z]?=[c0,c1,c2,c3,c4][z]?:=fun z hq=>by
          rw[List.getElem?_append_right (by omega),show vs.length*5+z - cs.length=z by omega]
        exact ⟨c0,c1,c2,c3,c4,rfl,key 0 (by omega),key 1 (by omega),key 2 (by omega),key 3 (by omega),key 4 (by omega)⟩
    · by_cases hj:j<vs.length
      · rw[List.getElem?_append_left hj] at hu;rw[List.getElem?_append_left (by omega)] at hy;exact hmap u y (h4 j u y hu hy)
      · rw[List.getElem?_append_right (by omega)] at hu hy
        have hj':j=vs.length:=by
          have:=(List.getElem?_eq_some_iff.1 hu).1;simp at this;omega
        subst hj';rw[Nat.sub_self] at hu;rw[hvl,Nat.sub_self] at hy;cases hu;cases hy;exact hmap _ _ hr
    · exact ((Below.refl B w0).alloc hB _).grown hg (by simp;omega) fun k hk=>(hown.lt k hk).1
  rw[←hv'] at main;exact h g cap w' main.1 main.2
end
theorem fiveF_set4 {w:World} {b:Nat} {c0 c1 c2 c3 c4:Value} (h:FiveF w b c0 c1 c2 c3 c4) (u:Value):FiveF (w.setCell ⟨b,4,none⟩ u) b c0 c1 c2 c3 u:=by
  have key:∀(k:Nat),(w.setCell ⟨b,4,none⟩ u).frozen? ⟨b,k,none⟩=w.frozen? ⟨b,k,none⟩:=fun k=>World.frozen?_setCell _ _ _ _;obtain ⟨⟨h0,h1,h2,h3,h4,h5⟩,f⟩:=h;refine ⟨⟨by simpa [World.setCell] using h0,?_,?_,?_,?_,World.cell?_setCell_same _ _ _ h5⟩,by rw[key,key,key,key,key];exact f⟩
  · rw[jbh _ _ _ _ _ (by decide)];exact h1
  · rw[jbh _ _ _ _ _ (by decide)];exact h2
  · rw[jbh _ _ _ _ _ (by decide)];exact h3
  · rw[jbh _ _ _ _ _ (by decide)];exact h4
theorem OwnN.setc {w:World} {B b o:Nat} {u v:Value} {xs:List Nd} (h:OwnN w B v xs) (hb:b<B):OwnN (w.setCell ⟨b,o,none⟩ u) B v xs:=by
  obtain ⟨cs,vs,h1,h2,h3,h4⟩:=h;refine ⟨cs,vs,?_,h2,h3,fun i u x hu hx=>(h4 i u x hu hx).map (fun p hp _=>World.cell?_setCell_other _ _ _ _ (fun e=>by have:=congrArg Addr.block e;have:=hp.1;simp at *;omega)) fun g hg _=>hg⟩;obtain ⟨e1,e2⟩:=h1;refine ⟨e1,?_⟩;rcases e2 with e2 | ⟨g,cap,cur,hv,hB,hh,r⟩
  · exact Or.inl e2
  · exact Or.inr ⟨g,cap,cur,hv,hB,(Below.heap_setCell w ⟨b,o,none⟩ u g (by show g≠b;omega)).trans hh,r⟩
section
variable {p:Nat} {A:Option Addr} {n c:Nat} {len:Int} {T:List Tk} {f:Nat}
theorem rread:∀f,IH p A n c len T f:=by
  intro f
  induction f with
  | zero=>intro nt s x s' h;cases h
  | succ f ih =>
    intro nt s x s' h;have h:jbo T len (jaw T len f) nt s=some (x,s'):=h
    cases nt with
    | imports=>trivial
    | decls=>trivial
    | decl=>exact c_decl ih h
    | classD=>exact c_class ih h
    | ifaceD=>exact c_iface ih h
    | members cls=>trivial
    | funcD blk=>exact c_func ih h
    | params first=>trivial
    | varD=>exact c_var ih h
    | types=>exact c_types h
    | block=>exact c_block ih h
    | stmts=>trivial
    | stmt=>exact c_stmt ih h
    | cond=>exact c_cond ih h
    | expr lvl=>exact c_expr ih h
    | binRest lvl n=>trivial
    | unary=>exact c_unary ih h
    | postRest n=>trivial
    | args=>exact c_args ih h
    | argsL first=>trivial
    | primary=>exact c_primary ih h
end
end
section
open Go.RowKit
section
variable {p:Nat} {A:Option Addr} {n c:Nat} {len:Int} {T:List Tk} {f:Nat}
set_option maxHeartbeats 25600000 in
theorem rmodule {f1 f2:Nat} {s sA sB:Ps} {x0 y0:Nd} (h1:jaw T len f1 .imports s=some (x0,sA)) (h2:jaw T len f2 .decls sA=some (y0,sB)) (W:World) (hrs:RS W p A n c len T s) :
    Calls Tryz.prog 35 #[.pointer (some ⟨p,0,none⟩)] W (GotR p A n c len T W (.mk 1 [] 0 len (x0.kids++y0.kids)) sB):=by
  obtain ⟨i0,hi0,hz0,hz1,hz2⟩:=info_parts jfd;have hn6:=hrs.n6;have HN:=jj hrs.tks.1;have H1:=jj h1;have H2:=jj h2;have kx2:=cell_1 hrs.cells.2.2.1;have h0:=(RW.start hrs).more (.cells #[.int .i64 1,.string ⟨#[]⟩,.int .i64 0,.int .i64 len,.slice none 0 0] 25);have hF:=jae (W.alloc (.cells #[.int .i64 0,.string ⟨#[]⟩,.int .i64 0,.int .i64 0,.slice none 0 0] 25)) (.int .i64 1) (.string ⟨#[]⟩) (.int .i64 0) (.int .i64 len) (.slice none 0 0) 25;obtain ⟨w0,hw0⟩:=jx ((W.alloc (.cells #[.int .i64 0,.string ⟨#[]⟩,.int .i64 0,.int .i64 0,.slice none 0 0] 25)).alloc (.cells #[.int .i64 1,.string ⟨#[]⟩,.int .i64 0,.int .i64 len,.slice none 0 0] 25));obtain ⟨bn,hbn⟩:=jx (W.heap.size+1);rw[show (W.alloc (.cells #[.int .i64 0,.string ⟨#[]⟩,.int .i64 0,.int .i64 0,.slice none 0 0] 25)).heap.size=W.heap.size+1 by simp] at hF;rw[hw0] at h0 hF;rw[hbn] at hF;have G0:=jj h0;have F0:=jj hF;have HW:=jj hw0;have HBN:=jj hbn;have HPL:=jj (show p<W.heap.size+1 by have:=hrs.st.lt;omega);have HNE:=jj (show bn≠p by have:=hrs.st.lt;omega);(have hbnp:p<bn:=by have:=hrs.st.lt;omega);(have hwbn:W.heap.size<bn:=by omega);have HSZ0:=jj hF.1.1;clear h0 hF hw0 hbn h1 h2 hrs;go_enter Tryz.func35,Tryz.ntmps35;go_wp2_with fail;rw[HW.out,HBN.out];clear HW kx2
  go_loopw [] (fun wr=>∃(acc:List Nd) (B:Option Addr) (m d:Nat) (sc:Ps) (g:Nat) (lr:Nd),FiveF wr bn (.int .i64 1) (.string ⟨#[]⟩) (.int .i64 0) (.int .i64 len) (.slice B m d)∧OwnN wr (bn+1) (.slice B m d) acc∧RW p A n c len T W wr sc∧jaw T len g .imports sc=some (lr,sA)∧x0.kids=acc++lr.kids∧acc.length+jh5 T sc≤n+1) (fun wr=>jdt p n wr)
  case atStart=>exact ⟨[],none,0,0,s,f1,x0,F0.out,OwnN.nil _ _,G0.out,H1.out,rfl,by have:=jl1 HN.out s;simpa using this⟩
  case round =>
    clear G0 F0 H1 HSZ0;obtain ⟨acc,B,m,d,sc,g,lr,hF,ho,hw,hr,hk,hl⟩:=hrel;obtain ⟨wo,hwo⟩:∃wo,wo=wr:=⟨wr,rfl⟩;subst hwo;have Hleft:=jj hw.rs.left;have HAL:=jj (show acc.length≤2000001 by omega);have HL:=jj hl
    cases g with
    | zero=>cases hr
    | succ g =>
    have hr:jfi T len (jaw T len g) sc=some (lr,sA):=hr;unfold jfi at hr;have HI:=jj (ris hw.rs 2 (by decide) jft ⟨#[105,109,112,111,114,116]⟩ rfl);have G0:=jj hw;have F0:=jj hF;have O0:=jj ho;have HSZ0:=jj hF.1.1;have hmd:=ho.sl.len.2.1;have hmd2:=ho.sl.len.2.2;clear hF ho hw hl
    cases hq:isP T 2 jft sc with
    | true =>
      rw[hq] at HI;rw[hq,if_pos rfl] at hr;obtain ⟨r,hrr⟩:=jx (jai T len 1 (jbb sc));have HT:=jj (fun X (hX:RS X p A n c len T (jbb sc))=>jiy hX 1 (by decide));have hat:=jdq (T:=T) (len:=len) (k:=1) (by decide) (jbb sc);simp only[hrr] at hr HT hat;obtain ⟨l2,s3,h3,h4⟩:=ja2.1 hr;obtain ⟨rfl,rfl⟩:=jap h4;have hwa:=jbz (T:=T) (len:=len) (k:=5) (by decide) [59] r.2;have hnb:=ji9 (by decide) hq;have Hmore:=jj ((((jfj (by decide) hq).trans hat).trans hwa).lt hnb);have hki:=jh6 (jj5 (by decide) hq);(have hsi:sc.i<n:=by have:=hki.2;have:=G0.out.rs.tks.1;omega);have HQ:=jj h3;have HKd:=jj hk;clear hr h3 h4 hrr hat hwa hnb hki hk hq;go_wp2_with fail;(with_reducible refine (HI.out).mono ?_);rintro e w21 ⟨rfl,hd21⟩;have G21:=jj (G0.out.drawn hd21);have V1:=jj (F0.out.keep (hd21.below _));clear F0;have V2:=jj (O0.out.below (hd21.below _));clear O0;clear hd21 G0;clear HI;go_wp2_with fail;(with_reducible refine (jha G21.out.rs).mono ?_);rintro e w22 ⟨rfl,hd22⟩;have G22:=jj (G21.out.drawn hd22);have V3:=jj (V1.out.keep (hd22.below _));clear V1;have V4:=jj (V2.out.below (hd22.below _));clear V2;clear hd22 G21;obtain ⟨k0,k1,k2,k3,k4⟩:=G22.out.rs.cells;obtain ⟨f1,-,-⟩:=G22.out.rs.frees;have hib:=G22.out.rs.ib;obtain ⟨w30,hw30⟩:=jx (w22.setCell ⟨p,1,none⟩ (.int .i64 ((sc.i:Int)+1)));have hst:=Bt.set w22 p 1 (.int .i64 ((sc.i:Int)+1));have hrn:=G22.out.rs.next hsi;rw[hw30] at hst hrn;have G30:=jj (G22.out.next hrn hst);have F30:=jj (V3.out.bt hst HNE.out);have O30:=jj (V4.out.bt hst (by omega));have HW30:=jj hw30;clear hst hrn hw30 G22 V3 V4;go_wp2_with fail;rw[HW30.out];clear HW30 k0 k1 k2 k3 k4 f1 hib;(with_reducible refine (HT.out _ G30.out.rs).mono ?_);rintro e w31 ⟨rfl,h31,b31⟩;have G31:=jj (G30.out.next h31 b31);have V5:=jj (F30.out.bt b31 HNE.out);clear F30;have V6:=jj (O30.out.bt b31 (by omega));clear O30;clear h31 b31 G30;go_wp2_with fail;(with_reducible refine (je5 G31.out.rs 5 (by decide) [59] ⟨#[59]⟩ rfl).mono ?_);rintro e w32 ⟨rfl,h32,b32⟩;have G32:=jj (G31.out.next h32 b32);have V7:=jj (V5.out.bt b32 HNE.out);clear V5;have V8:=jj (V6.out.bt b32 (by omega));clear V6;clear h32 b32 G31;have GC:=jj (show RW p A n c len T W w32.drew (jab T len 5 [59] r.2) from G32.out.drawn ⟨1,rfl⟩);have FC:=jj (V7.out.keep (jba w32));have OC:=jj (V8.out.below (jba w32));have HBc:=jj (show bn+1≤w32.drew.heap.size from V7.out.1.1);obtain ⟨⟨-,y0,y1,y2,y3,y4⟩,z0,z1,z2,z3,z4⟩:=V7.out;have HBx:=jj (show bn+1≤w32.heap.size from V7.out.1.1);go_wp2_with fail
      go_region_law (first
        | (refine jmt (by rfl) (.tmp 28) (.tmp 33) 23 (by rfl) i0 _ 64 Tryz.underlying23 hi0 hz0 hz1 hz2 rfl (bn+1) (.slice B m d) acc (by rfl) w80 (.int .i64 2) (.string (bs r.1)) (.int .i64 (jaq T len sc)) (.int .i64 (jao T (jab T len 5 [59] r.2))) (.slice none 0 0) (je3 T 2 r.1 (jaq T len sc) [] (jab T len 5 [59] r.2)) O80.out HB80.out _ rfl (by rfl) R80.out (by have:=HAL.out;omega) (by have:=HAL.out;unfold maxLen;omega) ?_;intro gg cap w81 ho81 hb81;have O81:=jj ho81;have B81:=jj hb81;have o81:=F80.out.at_ hb81 (Nat.lt_succ_self _);have F81:=jj o81;obtain ⟨⟨-,x0,x1,x2,x3,x4⟩,g0,g1,g2,g3,g4⟩:=o81;clear ho81 hb81)
        | (go_simp;go_at_call 68;refine (jew GC.out.rs 2 (jaq T len sc) (bs r.1) none 0 0).mono ?_;rintro e w80 ⟨rfl,b80⟩;have F80:=jj (FC.out.keep b80);have O80:=jj (OC.out.below b80);have G80:=jj (GC.out.keep b80);have HB80:=jj (Nat.le_trans HBc.out b80.size);have R80:=jj (show NdV w80 (fun g=>bn+1≤g∧(Value.slice B m d).ownBlock≠some g) (.agg #[.int .i64 2,.string (bs r.1),.int .i64 (jaq T len sc),.int .i64 (jao T (jab T len 5 [59] r.2)),.slice none 0 0]) (je3 T 2 r.1 (jaq T len sc) [] (jab T len 5 [59] r.2)) from jc1 _ _ _ _);obtain ⟨⟨-,q0,q1,q2,q3,q4⟩,p0,p1,p2,p3,p4⟩:=F80.out;have e80:=F80.out.keep (jak (Below.refl _ w80) (.cells #[.int .i64 2,.string (bs r.1),.int .i64 (jaq T len sc),.int .i64 (jao T (jab T len 5 [59] r.2)),.slice none 0 0] 25));obtain ⟨⟨-,t0,t1,t2,t3,t4⟩,-⟩:=e80))
      all_goals
        have G81:=jj (G80.out.push (B81.out.mono (by omega)));have b82:Below (W.heap.size+1) w81 (w81.setCell ⟨bn,4,none⟩ (.slice (some ⟨gg,0,none⟩) (acc.length+1) cap)):=(Below.refl _ w81).setCell (p:=⟨bn,4,none⟩) (by show W.heap.size+1≤bn;omega) _;have G82:=jj (G81.out.push b82);have F82:=jj (fiveF_set4 F81.out (.slice (some ⟨gg,0,none⟩) (acc.length+1) cap));have O82:=jj (O81.out.setc (o:=4) (u:=.slice (some ⟨gg,0,none⟩) (acc.length+1) cap) (Nat.lt_succ_self bn));have Hl2:=jj (G82.out.rs.left);clear b82;go_wp2;go_roundw
        case rel =>
          refine ⟨acc++[je3 T 2 r.1 (jaq T len sc) [] (jab T len 5 [59] r.2)],_,_,_,jab T len 5 [59] r.2,g,l2,F82.out,O82.out,G82.out,HQ.out,?_,?_⟩
          · rw[HKd.out];simp[jen,jdo,Nd.kids]
          · have h1:=Hmore.out;have h2:=HL.out;simp only[List.length_append,List.length_cons,List.length_nil] at h2 ⊢;omega
        case measure=>show jdt p n _<jdt p n _;rw[Hl2.out,Hleft.out];exact Hmore.out
    | false =>
      rw[hq] at HI;rw[hq,if_neg (by decide)] at hr;obtain ⟨rfl,rfl⟩:=jap hr;have HKd:=jj (show x0.kids=acc by rw[hk];simp[je8,Nd.kids]);clear hr hk hq Hleft HL;go_wp2_with fail;(with_reducible refine (HI.out).mono ?_);rintro e w21 ⟨rfl,hd21⟩;have G21:=jj (G0.out.drawn hd21);have V1:=jj (F0.out.keep (hd21.below _));clear F0;have V2:=jj (O0.out.below (hd21.below _));clear O0;clear hd21 G0;clear HI;go_wp2_with fail
      go_loopw [] (fun wr=>∃(acc2:List Nd) (B:Option Addr) (m d:Nat) (sc2:Ps) (g:Nat) (lr:Nd),FiveF wr bn (.int .i64 1) (.string ⟨#[]⟩) (.int .i64 0) (.int .i64 len) (.slice B m d)∧OwnN wr (bn+1) (.slice B m d) (acc++acc2)∧RW p A n c len T W wr sc2∧jaw T len g .decls sc2=some (lr,sB)∧y0.kids=acc2++lr.kids∧acc2.length+jh5 T sc2≤n+1) (fun wr=>jdt p n wr)
      case atStart=>exact ⟨[],B,m,d,sc,f2,y0,V1.out,by rw[List.append_nil];exact V2.out,G21.out,H2.out,rfl,by have:=jl1 HN.out sc;simpa using this⟩
      case round =>
        clear G21 V1 V2 H2 HSZ0;obtain ⟨acc2,B,m,d,sc2,g,lr,hF,ho,hw,hr,hk,hl⟩:=hrel;obtain ⟨wo,hwo⟩:∃wo,wo=wr:=⟨wr,rfl⟩;subst hwo;have Hleft:=jj hw.rs.left;have HAL2:=jj (show acc2.length≤2000001 by omega);have HL:=jj hl
        cases g with
        | zero=>cases hr
        | succ g =>
        have hr:jip T (jaw T len g) sc2=some (lr,sB):=hr;unfold jip at hr;obtain ⟨accA,haccA⟩:=jx (acc++acc2);rw[haccA] at ho;have HAA:=jj haccA;have HALA:=jj (show accA.length≤4000002 by rw[←haccA,List.length_append];have:=HAL.out;have:=HAL2.out;omega);have G0:=jj hw;have F0:=jj hF;have O0:=jj ho;have hmd:=ho.sl.len.2.1;have hmd2:=ho.sl.len.2.2;have hib:=hw.rs.ib;have hnc:=hw.rs.tks.2.1;have hcc:=hw.rs.tks.2.2;obtain ⟨k0,k1,k2,k3,k4⟩:=hw.rs.cells;clear hF ho hw hl haccA;by_cases hgd:sc2.bad.isSome=true∨T.length≤sc2.i
        · rw[if_pos hgd] at hr;obtain ⟨rfl,rfl⟩:=jap hr;have HKd2:=jj (show y0.kids=acc2 by rw[hk];simp[je8,Nd.kids])
          cases hb:sc2.bad with
          | some bb =>
            rw[hb] at k3 k4;simp only[Option.isSome] at k3;clear hr hk hb hgd;go_wp2_with fail;go_quiet (fail);have hD:Drawn wo (wo.drewN nq):=⟨nq,rfl⟩;generalize wo.drewN nq=w50 at hD ⊢;have G50:=jj (G0.out.drawn hD);have F50:=jj (F0.out.keep (hD.below _));have O50:=jj (O0.out.below (hD.below _));clear hD G0 F0 O0 k0 k1 k2 k3 k4;obtain ⟨⟨-,y0',y1,y2,y3,y4⟩,-⟩:=F50.out;obtain ⟨⟨-,x0',x1,x2,x3,x4⟩,g0,g1,g2,g3,g4⟩:=G50.out.box;go_wp2;exact bodyPost_ret (jag rfl _ _ W.heap.size _ _ _ _ _ rfl (ja3 G50.out.box _ _ _ _ _)) rfl (G50.out.fin (by rw[HKd.out,HKd2.out,HAA.out];exact ((O50.out.mono (B':=W.heap.size+1) (by omega)).node 1 0 len [])))
          | none =>
            rw[hb] at k3 k4;simp only[Option.isSome] at k3
            have hge:T.length≤sc2.i:=by
              rcases hgd with h | h
              · rw[hb] at h;cases h
              · exact h
            have hnl:=HN.out;obtain ⟨i,hi⟩:=jx (sc2.i);rw[hi] at k1 hge hib;have d1:decide ((i:Int)<(n:Int))=false:=decide_eq_false (by omega);have d2:decide (i<n)=false:=decide_eq_false (by omega);clear hr hk hb hgd hge hnl hi;go_wp2_with fail;go_quiet (fail);have hD:Drawn wo (wo.drewN nq):=⟨nq,rfl⟩;generalize wo.drewN nq=w50 at hD ⊢;have G50:=jj (G0.out.drawn hD);have F50:=jj (F0.out.keep (hD.below _));have O50:=jj (O0.out.below (hD.below _));clear hD G0 F0 O0 k0 k1 k2 k3 k4;obtain ⟨⟨-,y0',y1,y2,y3,y4⟩,-⟩:=F50.out;obtain ⟨⟨-,x0',x1,x2,x3,x4⟩,g0,g1,g2,g3,g4⟩:=G50.out.box;go_wp2;exact bodyPost_ret (jag rfl _ _ W.heap.size _ _ _ _ _ rfl (ja3 G50.out.box _ _ _ _ _)) rfl (G50.out.fin (by rw[HKd.out,HKd2.out,HAA.out];exact ((O50.out.mono (B':=W.heap.size+1) (by omega)).node 1 0 len [])))
        · rw[if_neg hgd] at hr;obtain ⟨hb,hnl⟩:=jlw hgd;rw[hb] at k3 k4;simp only[Option.isSome] at k3;have hlen:=HN.out;obtain ⟨q,s1,h3,h4⟩:=ja2.1 hr;obtain ⟨l2,s2,h5,h6⟩:=ja2.1 h4;obtain ⟨rfl,rfl⟩:=jap h6;have HX:=jj (fun X hX=>rread (p:=p) (A:=A) (n:=n) (c:=c) g _ _ _ _ h3 X hX);have Hmore:=jj (((jep h3).2 rfl).lt (by rw[hb];rfl));have HQ:=jj h5;have HKd2:=jj hk;obtain ⟨i,hi⟩:=jx (sc2.i);rw[hi] at k1 hnl hib;have d1:decide ((i:Int)<(n:Int))=true:=decide_eq_true (by omega);(have d2:(i:Int)<(n:Int):=by omega);clear hr hk hb hgd h3 h4 h5 h6 hnl hlen hi;go_wp2_with fail;go_quiet (fail);go_wp2_with fail;have hD:Drawn wo (wo.drewN nq):=⟨nq,rfl⟩;generalize wo.drewN nq=w50 at hD ⊢;have G50:=jj (G0.out.drawn hD);have F50:=jj (F0.out.keep (hD.below _));have O50:=jj (O0.out.below (hD.below _));clear hD G0 F0 O0 k0 k1 k2 k3 k4;have GC:=jj (show RW p A n c len T W w50.drew sc2 from G50.out.drawn ⟨1,rfl⟩);have FC:=jj (F50.out.keep (jba w50));have OC:=jj (O50.out.below (jba w50));have HBc:=jj (show bn+1≤w50.drew.heap.size from F50.out.1.1);have HAP:=jj (fun g (hg:w50.drew.heap.size≤g)=>OC.out.apart g hg);obtain ⟨⟨-,y0,y1,y2,y3,y4⟩,z0,z1,z2,z3,z4⟩:=F50.out;have HBx:=jj (show bn+1≤w50.heap.size from F50.out.1.1)
          go_region_law (first
            | (refine jmt (by rfl) (.tmp 54) (.tmp 57) 23 (by rfl) i0 _ 64 Tryz.underlying23 hi0 hz0 hz1 hz2 rfl (bn+1) (.slice B m d) accA (by rfl) w80 _ _ _ _ _ q O80.out HB80.out _ rfl (by rfl) R80.out (by have:=HALA.out;omega) (by have:=HALA.out;unfold maxLen;omega) ?_;intro gg cap w81 ho81 hb81;have O81:=jj ho81;have B81:=jj hb81;have o81:=F80.out.at_ hb81 (Nat.lt_succ_self _);have F81:=jj o81;obtain ⟨⟨-,x0,x1,x2,x3,x4⟩,g0,g1,g2,g3,g4⟩:=o81;clear ho81 hb81)
            | (go_simp;go_at_call 42;refine (HX.out _ GC.out.rs).mono ?_;intro e w80 h80;obtain ⟨qA,qm,qd,rfl,hv80,hs80,b80⟩:=h80;have F80:=jj (FC.out.bt b80 HNE.out);have O80:=jj (OC.out.bt b80 (by omega));have G80:=jj (GC.out.next hs80 b80);have HB80:=jj (Nat.le_trans HBc.out b80.size);have R80:=jj (hv80.map (fun _ _ _=>rfl) (fun g hg _=>(⟨Nat.le_trans HBc.out hg,HAP.out g hg⟩:bn+1≤g∧(Value.slice B m d).ownBlock≠some g)));obtain ⟨⟨-,q0,q1,q2,q3,q4⟩,p0,p1,p2,p3,p4⟩:=F80.out;have e80:=F80.out.keep (jak (Below.refl _ w80) (.cells #[.int .i64 q.kind,.string (bs q.text),.int .i64 q.at_,.int .i64 q.en,.slice qA qm qd] 25));obtain ⟨⟨-,t0,t1,t2,t3,t4⟩,-⟩:=e80;clear hv80 hs80 b80))
          all_goals
            have G81:=jj (G80.out.push (B81.out.mono (by omega)));have b82:Below (W.heap.size+1) w81 (w81.setCell ⟨bn,4,none⟩ (.slice (some ⟨gg,0,none⟩) (accA.length+1) cap)):=(Below.refl _ w81).setCell (p:=⟨bn,4,none⟩) (by show W.heap.size+1≤bn;omega) _;have G82:=jj (G81.out.push b82);have F82:=jj (fiveF_set4 F81.out (.slice (some ⟨gg,0,none⟩) (accA.length+1) cap));have O82:=jj (O81.out.setc (o:=4) (u:=.slice (some ⟨gg,0,none⟩) (accA.length+1) cap) (Nat.lt_succ_self bn));have Hl2:=jj (G82.out.rs.left);clear b82;go_wp2;go_roundw
            case rel =>
              refine ⟨acc2++[q],_,_,_,s1,g,l2,F82.out,by rw[←List.append_assoc,HAA.out];exact O82.out,G82.out,HQ.out,?_,?_⟩
              · rw[HKd2.out];simp[jen,jdo,Nd.kids]
              · have h1:=Hmore.out;have h2:=HL.out;simp only[List.length_append,List.length_cons,List.length_nil] at h2 ⊢;omega
            case measure=>show jdt p n _<jdt p n _;rw[Hl2.out,Hleft.out];exact Hmore.out
end
end
section
open Go.RowKit
def Got3p (p:Nat) (w:World) (x:Nd × Int × Int) (e:Ending) (w':World):Prop :=
  ∃A' m' d',e=.returned (.tuple #[.agg #[.int .i64 x.1.kind,.string (bs x.1.text),.int .i64 x.1.at_,.int .i64 x.1.en,.slice A' m' d'],.int .i64 x.2.1,.int .i64 x.2.2]) ∧
    NdV w' (fun g=>p<g) (.agg #[.int .i64 x.1.kind,.string (bs x.1.text),.int .i64 x.1.at_,.int .i64 x.1.en,.slice A' m' d']) x.1∧Bt p w w'
section
variable {p:Nat} {A:Option Addr} {n c:Nat} {len:Int} {T:List Tk} {f:Nat}
set_option maxHeartbeats 12800000 in
theorem rdone {r:Nd × Ps} (W:World) (hrs:RS W p A n c len T r.2) (v:Value) (hv:NdV W (fun g=>p<g) v r.1) :
    Calls Tryz.prog 36 #[.pointer (some ⟨p,0,none⟩),v] W (Got3p p W (jm6 T len r)):=by
  obtain ⟨y,s⟩:=r;dsimp only at hrs hv
  obtain ⟨cA,cm,cd,rfl⟩:∃A' m' d',v=.agg #[.int .i64 y.kind,.string (bs y.text),.int .i64 y.at_,.int .i64 y.en,.slice A' m' d']:=by
    cases hv with
    | mk k a e x B m d vs l _ _ _=>exact ⟨B,m,d,rfl⟩
  have hn:=hrs.tks.1;have hnc:=hrs.tks.2.1;have hcc:=hrs.tks.2.2;have hib:=hrs.ib;have hn6:=hrs.n6;have hpW:=hrs.st.lt;have hrb:=hrs.keep (jak (jak (Below.refl _ W) (.cells #[.int .i64 y.kind,.string (bs y.text),.int .i64 y.at_,.int .i64 y.en,.slice cA cm cd] 25)) (.cells #[.int .i64 0,.string ⟨#[]⟩,.int .i64 0,.int .i64 0,.slice none 0 0] 25));have hbb:=jak (jak (Below.refl _ W) (.cells #[.int .i64 y.kind,.string (bs y.text),.int .i64 y.at_,.int .i64 y.en,.slice cA cm cd] 25)) (.cells #[.int .i64 0,.string ⟨#[]⟩,.int .i64 0,.int .i64 0,.slice none 0 0] 25);have hF3:=(jae W (.int .i64 y.kind) (.string (bs y.text)) (.int .i64 y.at_) (.int .i64 y.en) (.slice cA cm cd) 25).keep (jak (Below.refl _ _) (.cells #[.int .i64 0,.string ⟨#[]⟩,.int .i64 0,.int .i64 0,.slice none 0 0] 25));have hF4:=jae (W.alloc (.cells #[.int .i64 y.kind,.string (bs y.text),.int .i64 y.at_,.int .i64 y.en,.slice cA cm cd] 25)) (.int .i64 0) (.string ⟨#[]⟩) (.int .i64 0) (.int .i64 0) (.slice none 0 0) 25;rw[show (W.alloc (.cells #[.int .i64 y.kind,.string (bs y.text),.int .i64 y.at_,.int .i64 y.en,.slice cA cm cd] 25)).heap.size=W.heap.size+1 by simp] at hF4;obtain ⟨w0,hw0⟩:=jx ((W.alloc (.cells #[.int .i64 y.kind,.string (bs y.text),.int .i64 y.at_,.int .i64 y.en,.slice cA cm cd] 25)).alloc (.cells #[.int .i64 0,.string ⟨#[]⟩,.int .i64 0,.int .i64 0,.slice none 0 0] 25));rw[hw0] at hrb hbb hF3 hF4;have R0:=jj hrb;have V0:=jj (hv.kept hbb);have HV:=jj hv;have B0:=jj hbb;have F3:=jj hF3;have F4:=jj hF4;have HW:=jj hw0;have HN:=jj hn;obtain ⟨i,b⟩:=s;dsimp only at hib;have HFa:=jj (fun X (hX:RS X p A n c len T ⟨i,b⟩)=>rfail hX);clear hrs hv hrb hbb hF3 hF4 hw0 hn;obtain ⟨k0,k1,k2,k3,k4⟩:=R0.out.cells;dsimp only at k1 k3 k4;by_cases hlt:i<n
  · have d1:decide ((i:Int)<(n:Int))=true:=decide_eq_true (by omega);have d2:(i:Int)<(n:Int):=by omega
    obtain ⟨a,ha⟩:∃a,(jgg T len ⟨i,b⟩).bad=some a:=by
      cases h:(jgg T len ⟨i,b⟩).bad with
      | none=>exact absurd h fail_no
      | some a=>exact ⟨a,rfl⟩
    have HE:=jj (show jm6 T len (y,⟨i,b⟩)=(je8,a,11) by
      unfold jm6
      rw[if_pos (by rw[HN.out];exact hlt),ha])
    have HA:=jj ha;clear hlt ha hib;go_enter Tryz.func36,Tryz.ntmps36;go_wp2_with fail;rw[HW.out];go_quiet (fail);go_wp2_with fail;have hD:Drawn w0 (w0.drewN nq):=⟨nq,rfl⟩;generalize w0.drewN nq=w1 at hD ⊢;(with_reducible refine (HFa.out _ (R0.out.drawn hD)).mono ?_);rintro e w2 ⟨rfl,h2,b2⟩;have R2:=jj h2;have B2:=jj (Bt.trans (Bt.of B0.out p) ((Bt.drawn hD p).trans b2));have F42:=jj ((F4.out.keep (hD.below _)).bt b2 (by omega));clear hD h2 b2 HW k0 k1 k2 k3 k4 R0 B0 F3 F4 V0;obtain ⟨k0,k1,k2,k3,k4⟩:=R2.out.cells;rw[HA.out] at k3 k4;simp only[Option.isSome,Option.getD] at k3 k4;obtain ⟨⟨-,x0,x1,x2,x3,x4⟩,g0,g1,g2,g3,g4⟩:=F42.out;go_wp2_with fail;go_region
    all_goals
      go_wp2;refine bodyPost_ret (jch rfl _ _ (W.heap.size+1) (.int .i64 0) (.string ⟨#[]⟩) (.int .i64 0) (.int .i64 0) (.slice none 0 0) _ _ rfl rfl rfl ?_) rfl ?_
      · exact (ja3 F42.out (.int .i64 0) (.string ⟨#[]⟩) (.int .i64 0) (.int .i64 0) (.slice none 0 0)).keep (jba _)
      · rw[HE.out];exact ⟨none,0,0,rfl,jc1 _ _ _ _,(jj1 (u0:=.int .i64 0) (u1:=.string ⟨#[]⟩) (u2:=.int .i64 0) (u3:=.int .i64 0) (u4:=.slice none 0 0) B2.out (show W.heap.size≤W.heap.size+1 by omega)).trans (Bt.drawn ⟨1,rfl⟩ p)⟩
  · have d1:decide ((i:Int)<(n:Int))=false:=decide_eq_false (by omega);have d2:decide (i<n)=false:=decide_eq_false hlt
    cases b with
    | some a =>
      have HE:=jj (show jm6 T len (y,⟨i,some a⟩)=(je8,a,11) by
        unfold jm6
        rw[if_neg (by rw[HN.out];exact hlt)])
      simp only[Option.isSome,Option.getD] at k3 k4;clear hlt hib;go_enter Tryz.func36,Tryz.ntmps36;go_wp2_with fail;rw[HW.out];go_quiet (fail);go_wp2_with fail;have hD:Drawn w0 (w0.drewN nq):=⟨nq,rfl⟩;generalize w0.drewN nq=w2 at hD ⊢;have R2:=jj (R0.out.drawn hD);have B2:=jj (Bt.trans (Bt.of B0.out p) (Bt.drawn hD p));have F42:=jj (F4.out.keep (hD.below _));clear hD HW k0 k1 k2 k3 k4 R0 B0 F3 F4 V0;obtain ⟨k0,k1,k2,k3,k4⟩:=R2.out.cells;simp only[Option.isSome,Option.getD] at k3 k4;obtain ⟨⟨-,x0,x1,x2,x3,x4⟩,g0,g1,g2,g3,g4⟩:=F42.out;go_wp2_with fail;go_region
      all_goals
        go_wp2;refine bodyPost_ret (jch rfl _ _ (W.heap.size+1) (.int .i64 0) (.string ⟨#[]⟩) (.int .i64 0) (.int .i64 0) (.slice none 0 0) _ _ rfl rfl rfl ?_) rfl ?_
        · exact (ja3 F42.out (.int .i64 0) (.string ⟨#[]⟩) (.int .i64 0) (.int .i64 0) (.slice none 0 0)).keep (jba _)
        · rw[HE.out];exact ⟨none,0,0,rfl,jc1 _ _ _ _,(jj1 (u0:=.int .i64 0) (u1:=.string ⟨#[]⟩) (u2:=.int .i64 0) (u3:=.int .i64 0) (u4:=.slice none 0 0) B2.out (show W.heap.size≤W.heap.size+1 by omega)).trans (Bt.drawn ⟨1,rfl⟩ p)⟩
    | none =>
      simp only[Option.isSome] at k3;have HDp:=jj (fun X (hX:NdV X (fun g=>p<g) (.agg #[.int .i64 y.kind,.string (bs y.text),.int .i64 y.at_,.int .i64 y.en,.slice cA cm cd]) y)=>(show Calls Tryz.prog 70 #[.agg #[.int .i64 y.kind,.string (bs y.text),.int .i64 y.at_,.int .i64 y.en,.slice cA cm cd],.int .i64 13] X fun e w'=>e=.returned (.tuple #[.int .i64 ((jf1 12 y).getD 0),.bool (jf1 12 y).isSome])∧Below X.heap.size X w' from rdeep 12 y X (fun g=>p<g) _ (by decide) hX))
      have HT:=jj (show jm6 T len (y,⟨i,none⟩)=match jf1 12 y with | some a=>(je8,a,4) | none=>(y,0,0) by
        unfold jm6;rw[if_neg (by rw[HN.out];exact hlt)];dsimp only
        cases jf1 12 y<;>rfl)
      obtain ⟨⟨-,y0,y1,y2,y3,y4⟩,-⟩:=F3.out;clear hlt hib
      cases hdp:jf1 12 y with
      | some z =>
        rw[hdp] at HDp HT;have HE:=jj (show jm6 T len (y,⟨i,none⟩)=(je8,z,4) from HT.out);simp only[Option.isSome,Option.getD] at HDp;clear hdp HT;go_enter Tryz.func36,Tryz.ntmps36;go_wp2_with fail;rw[HW.out];go_quiet (fail);go_wp2_with fail;have hD:Drawn w0 (w0.drewN nq):=⟨nq,rfl⟩;generalize w0.drewN nq=w1 at hD ⊢;have F31:=jj (F3.out.keep (hD.below _));have F41:=jj (F4.out.keep (hD.below _));have V1:=jj (V0.out.kept (hD.below _));have B1:=jj (bgo B0.out (hD.below _));clear hD HW k0 k1 k2 k3 k4 R0 B0 F3 F4 V0 y0 y1 y2 y3 y4;(with_reducible refine (HDp.out _ V1.out).mono ?_);rintro e w2 ⟨rfl,b2⟩;have F32:=jj (F31.out.keep b2);have F42:=jj (F41.out.keep b2);have B2:=jj (bgo B1.out b2);clear b2 F31 F41 V1 B1;obtain ⟨⟨-,y0,y1,y2,y3,y4⟩,-⟩:=F32.out;obtain ⟨⟨-,x0,x1,x2,x3,x4⟩,g0,g1,g2,g3,g4⟩:=F42.out;go_wp2;exact bodyPost_ret (jch rfl _ _ (W.heap.size+1) _ _ _ _ _ _ _ rfl rfl rfl (ja3 F42.out _ _ _ _ _)) rfl (by rw[HE.out];exact ⟨none,0,0,rfl,jc1 _ _ _ _,jj1 (Bt.of B2.out p) (by omega)⟩)
      | none =>
        rw[hdp] at HDp HT;have HE:=jj (show jm6 T len (y,⟨i,none⟩)=(y,0,0) from HT.out);simp only[Option.isSome,Option.getD] at HDp;clear hdp HT;go_enter Tryz.func36,Tryz.ntmps36;go_wp2_with fail;rw[HW.out];go_quiet (fail);go_wp2_with fail;have hD:Drawn w0 (w0.drewN nq):=⟨nq,rfl⟩;generalize w0.drewN nq=w1 at hD ⊢;have F31:=jj (F3.out.keep (hD.below _));have F41:=jj (F4.out.keep (hD.below _));have V1:=jj (V0.out.kept (hD.below _));have B1:=jj (bgo B0.out (hD.below _));clear hD HW k0 k1 k2 k3 k4 R0 B0 F3 F4 V0 y0 y1 y2 y3 y4;(with_reducible refine (HDp.out _ V1.out).mono ?_);rintro e w2 ⟨rfl,b2⟩;have F32:=jj (F31.out.keep b2);have F42:=jj (F41.out.keep b2);have B2:=jj (bgo B1.out b2);clear b2 F31 F41 V1 B1;obtain ⟨⟨-,y0,y1,y2,y3,y4⟩,-⟩:=F32.out;obtain ⟨⟨-,x0,x1,x2,x3,x4⟩,g0,g1,g2,g3,g4⟩:=F42.out;go_wp2;exact bodyPost_ret (jch rfl _ _ (W.heap.size+1) _ _ _ _ _ _ _ rfl rfl rfl (ja3 F42.out _ _ _ _ _)) rfl (by rw[HE.out];exact ⟨_,_,_,rfl,HV.out.map (fun q _ hq=>(jaj B2.out (show W.heap.size≤W.heap.size+1 by omega)).cell hq) (fun _ h _=>h),jj1 (Bt.of B2.out p) (by omega)⟩)
end
end
section
open Go.RowKit
theorem rs_new {W:World} {A:Option Addr} {m c:Nat} {T:List Tk} (h:TkS W A m c T) (hl:T.length≤600) (ht:∀(i:Nat) (t:Tk),T[i]?=some t→t.text.length≤100000) (len:Int) :
    RS (W.alloc (.cells #[.slice A m c,.int .i64 0,.int .i64 len,.bool false,.int .i64 0] 50)) W.heap.size A m c len T ⟨0,none⟩ :=
  ⟨⟨heap_alloc_new W _,h.p.below (jak (Below.refl _ W) _)⟩,Nat.zero_le _,by have:=h.2.2.1;omega,ht⟩
theorem got3_up {p:Nat} {w W w':World} {n:Nd} {A:Option Addr} {m d:Nat} {z z':Int} {u0 u1 u2 u3 u4:Value} {x:Nd × Int × Int} (h:x=(n,z,z')) (hv:NdV w' (fun g=>p<g) (.agg #[.int .i64 n.kind,.string (bs n.text),.int .i64 n.at_,.int .i64 n.en,.slice A m d]) n) (ht:Bt p W w') (hb:Below w.heap.size w W) (hp:w.heap.size<p) (hpW:p≤W.heap.size) :
    jn7 w x (.returned (.tuple #[.agg #[.int .i64 n.kind,.string (bs n.text),.int .i64 n.at_,.int .i64 n.en,.slice A m d],.int .i64 z,.int .i64 z'])) (jex w' w.heap.size u0 u1 u2 u3 u4):=by
  subst h;refine ⟨A,m,d,rfl,hv.map (fun q hq _=>jd1 (by omega)) (fun g hg _=>by omega),jaj (hb.trans ((ht.up (Nat.le_refl p) hpW).mono (Nat.le_of_lt hp))) (Nat.le_refl _)⟩
theorem rModule (s:ByteArray) (hs:s.size≤2000000) (W:World):Calls Tryz.prog 12 #[.string s] W (jn7 W (jdh s.data.toList)):=by
  have hF0:=jae W (.int .i64 0) (.string ⟨#[]⟩) (.int .i64 0) (.int .i64 0) (.slice none 0 0) 25;have hb0:=jak (Below.refl _ W) (.cells #[.int .i64 0,.string ⟨#[]⟩,.int .i64 0,.int .i64 0,.slice none 0 0] 25);obtain ⟨w0,hw0⟩:=jx (W.alloc (.cells #[.int .i64 0,.string ⟨#[]⟩,.int .i64 0,.int .i64 0,.slice none 0 0] 25));rw[hw0] at hF0 hb0;have F0:=jj hF0;have B0:=jj hb0;have HW:=jj hw0;have HS:=jj (rScan s hs w0);clear hF0 hb0 hw0
  cases hsc:jcx false s.data.toList with
  | error x =>
    obtain ⟨a,e⟩:=x;have hne:=((jc0 false s.data.toList).2 a e hsc).2;have HE:=jj (show jdh s.data.toList=(je8,(a:Int),e) by unfold jdh;rw[hsc]);rw[hsc] at HS;clear hsc;go_enter Tryz.func12,Tryz.ntmps12;go_wp2_with fail;rw[HW.out];(with_reducible refine HS.out.mono ?_);rintro ee w1 ⟨A,n,c,rfl,-,b1⟩;dsimp only[jmg] at *;have F1:=jj (F0.out.keep b1);have B1:=jj (bgo B0.out b1);clear b1 HW HS B0 F0;obtain ⟨⟨-,x0,x1,x2,x3,x4⟩,g0,g1,g2,g3,g4⟩:=F1.out;go_wp2;exact bodyPost_ret (jch rfl _ _ W.heap.size _ _ _ _ _ _ _ rfl rfl rfl (ja3 F1.out _ _ _ _ _)) rfl (by rw[HE.out];exact ⟨none,0,0,rfl,jc1 _ _ _ _,jaj B1.out (Nat.le_refl _)⟩)
  | ok T =>
    obtain ⟨h600,hsh⟩:=jfx hsc;have HE:=jj (show jdh s.data.toList=jm6 T (s.size:Int) (modP T (s.size:Int)) by unfold jdh;rw[hsc,size_list]);rw[hsc] at HS;have HSh:=jj hsh;clear hsc hsh;go_enter Tryz.func12,Tryz.ntmps12;go_wp2_with fail;rw[HW.out];(with_reducible refine HS.out.mono ?_);rintro ee w1 ⟨A,n,c,rfl,ht1,b1⟩;dsimp only[jmg] at *;have hR:=rs_new ht1 h600 HSh.out (s.size:Int);have bp:=jak (Below.refl _ w1) (.cells #[.slice A n c,.int .i64 0,.int .i64 (s.size:Int),.bool false,.int .i64 0] 50);have F1:=jj ((F0.out.keep b1).keep bp);have B1:=jj (bgo B0.out (bgo b1 bp));have hWp:W.heap.size<w1.heap.size:=(F0.out.keep b1).1.1;clear ht1;go_wp2_with fail;obtain ⟨w2,hw2⟩:=jx (w1.alloc (.cells #[.slice A n c,.int .i64 0,.int .i64 (s.size:Int),.bool false,.int .i64 0] 50));obtain ⟨p,hp⟩:=jx (w1.heap.size);rw[hw2] at hR F1 B1 ⊢;rw[hp] at hR hWp ⊢;have R1:=jj hR;have HPL:=jj hR.st.lt;have HWp:=jj hWp;clear hR hw2 hp b1 bp HW HS B0 F0 hWp;have HMod:=jj (rmodule (jg7 (T:=T) (len:=(s.size:Int)) .imports ⟨0,none⟩) (jg7 (T:=T) (len:=(s.size:Int)) .decls (rd T (s.size:Int) .imports ⟨0,none⟩).2) w2 R1.out);obtain ⟨r,hr⟩:=jx (modP T (s.size:Int));have HMod:=jj (show Calls Tryz.prog 35 #[.pointer (some ⟨p,0,none⟩)] w2 (GotR p A n c (s.size:Int) T w2 r.1 r.2) by rw[←hr];exact HMod.out);rw[hr] at HE;obtain ⟨zz,hzz⟩:=jx (jm6 T (s.size:Int) r);have HDn:=jj (fun (X:World) (hX:RS X p A n c (s.size:Int) T r.2) (v:Value) (hv:NdV X (fun g=>p<g) v r.1)=>rdone X hX v hv);rw[hzz] at HE HDn;obtain ⟨zn,za,ze⟩:=zz;clear hr hzz;(with_reducible refine HMod.out.mono ?_);rintro e w3 ⟨qA,qm,qd,rfl,hv3,hs3,b3⟩;have HV:=jj (show NdV w3 (fun g=>p<g) _ r.1 from hv3.map (fun _ _ _=>rfl) (fun g hg _=>by have:=HPL.out;omega));have R3:=jj hs3;have F3:=jj (F1.out.bt b3 (by have:=HWp.out;omega));have B3:=jj b3;clear hv3 hs3 b3 HMod R1 F1;go_wp2_with fail;have bl:=jak (Below.refl _ w3) (.cells #[.int .i64 r.1.kind,.string (bs r.1.text),.int .i64 r.1.at_,.int .i64 r.1.en,.slice qA qm qd] 25);have R4:=jj (R3.out.keep bl);have V4:=jj (HV.out.kept bl);have F4:=jj (F3.out.keep bl);have B4:=jj (B3.out.trans (Bt.of bl p));obtain ⟨⟨-,y0,y1,y2,y3,y4⟩,-⟩:=jae w3 (.int .i64 r.1.kind) (.string (bs r.1.text)) (.int .i64 r.1.at_) (.int .i64 r.1.en) (.slice qA qm qd) 25;obtain ⟨w4,hw4⟩:=jx (w3.alloc (.cells #[.int .i64 r.1.kind,.string (bs r.1.text),.int .i64 r.1.at_,.int .i64 r.1.en,.slice qA qm qd] 25));rw[hw4] at bl R4 V4 F4 B4 y0 y1 y2 y3 y4 ⊢;clear hw4 bl R3 HV F3 B3;go_wp2_with fail;(with_reducible refine (HDn.out w4 R4.out _ V4.out).mono ?_);rintro e w5 ⟨A',m',d',rfl,hv5,b5⟩;dsimp only at hv5 ⊢;have V5:=jj hv5;have F5:=jj (F4.out.bt b5 (by have:=HWp.out;omega));have B5:=jj (B4.out.trans b5);clear hv5 b5 R4 V4 F4 B4 y0 y1 y2 y3 y4;obtain ⟨⟨-,x0,x1,x2,x3,x4⟩,g0,g1,g2,g3,g4⟩:=F5.out;go_wp2;exact bodyPost_ret (jch rfl _ _ W.heap.size _ _ _ _ _ (.int .i64 za) (.int .i64 ze) rfl rfl rfl (ja3 F5.out _ _ _ _ _)) rfl (got3_up HE.out V5.out B5.out B1.out HWp.out (Nat.le_of_lt HPL.out))
end
end Go.Proofs.YtonoklmobocikaaGreatDoor
