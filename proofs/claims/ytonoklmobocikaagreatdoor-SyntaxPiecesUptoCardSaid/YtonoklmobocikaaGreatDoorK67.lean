/- Lemmas. -/
import Derived.Test.YtonoklmobocikaaGreatDoorK52
import Derived.Test.YtonoklmobocikaaGreatDoorK66
set_option linter.unusedVariables false
set_option linter.unusedSimpArgs false
set_option maxRecDepth 20000
set_option maxHeartbeats 6400000
namespace Go.Proofs.YtonoklmobocikaaGreatDoor
section
open Go.RowKit
theorem jnq {W:World} {N:Nd} {p q:Int} {e:Ending} {w':World} (h:jn7 W (N,p,q) e w') :
    ∃A m d,e=.returned (.tuple #[.agg #[.int .i64 N.kind,.string (bs N.text),.int .i64 N.at_,.int .i64 N.en,.slice A m d],.int .i64 p,.int .i64 q])∧NdS w' (fun g=>W.heap.size≤g) A m d N.kids∧Below W.heap.size W w':=by
  obtain ⟨A,m,d,rfl,hv,hb⟩:=h;obtain ⟨-,-,-,-,A2,m2,d2,he,hk⟩:=hv.cells;injection he with h1 h2 h3;subst h1 h2 h3;exact ⟨A,m,d,rfl,hk,hb⟩
theorem jnu (s:ByteArray) (a b:Nat):(s.extract a b).data.toList=(s.data.toList.drop a).take (b - a):=by
  simp[List.drop_take]
set_option maxHeartbeats 40000000 in
theorem law8 (s:ByteArray) (hs:s.size≤2000000) (w:World):Calls Tryz.prog 8 #[.string s] w fun en w'=>en=.returned (.bool true)∧Below w.heap.size w w':=by
  have HA:=jj (jla w);have H1:=jj (fun W=>jjz s hs W);obtain ⟨⟨N,i1,e1⟩,hX⟩:∃X,jdh s.data.toList=X:=⟨_,rfl⟩;rw[hX] at H1;have HX:=jj hX;(have hsi:(s.size:Int)≤2000000:=by omega);clear hX;go_enter Tryz.func8,Tryz.ntmps8;go_wp2_with fail;(with_reducible refine HA.out.mono ?_);rintro en w1 ⟨rfl,hb1⟩;have HB1:=jj hb1;clear hb1;go_wp2_with fail;(with_reducible refine (H1.out _).mono ?_);intro en w2 hgot;obtain ⟨A,m,d,rfl,hk,hb2⟩:=jka hgot;have hb3:=jak hb2 (.cells #[.int .i64 N.kind,.string (bs N.text),.int .i64 N.at_,.int .i64 N.en,.slice A m d] 25);have f3:=ja6 w2 (.int .i64 N.kind) (.string (bs N.text)) (.int .i64 N.at_) (.int .i64 N.en) (.slice A m d) 25;have k3:=hk.kept (jak (Below.refl _ w2) (.cells #[.int .i64 N.kind,.string (bs N.text),.int .i64 N.at_,.int .i64 N.en,.slice A m d] 25));clear hgot hk hb2;go_upto_region 4 with fail;obtain ⟨w3,hw3⟩:=jx (w2.alloc (.cells #[.int .i64 N.kind,.string (bs N.text),.int .i64 N.at_,.int .i64 N.en,.slice A m d] 25));obtain ⟨p1,hp1⟩:∃p,w2.heap.size=p:=⟨_,rfl⟩;rw[hw3] at hb3 f3 k3 ⊢;rw[hp1] at f3 ⊢;have HB3:=jj (bgo HB1.out hb3);have K3:=jj k3;obtain ⟨-,t0,t1,t2,t3,t4⟩:=f3;clear hb3 k3 hw3 hp1;by_cases h3:1000<s.size
  · (have hg:(1000:Int)<(s.size:Int):=by omega);have hg2:(s.size:Int) > 1000:=hg;clear h3;go_wp2;go_ret;exact ⟨rfl,HB3.out⟩
  (have hg:¬(1000:Int)<(s.size:Int):=by omega);have hg2:¬(s.size:Int) > 1000:=hg;by_cases he:e1=0
  case neg =>
    have r1:(e1 != 0)=true:=jjd he;clear he h3;go_wp2;go_ret;exact ⟨rfl,HB3.out⟩
  have r1:(e1 != 0)=false:=jje he;subst he;have HPc:=jj (fun (y:Nd) (hy:y∈jca N) (what:Int) hw=>module_pieces HX.out hy (what:=what) hw);have HNs:=jj (pNodes N w3 _ _ (by have:=(jmy HX.out).1;omega) (jb7 K3.out));clear h3;go_wp2_with fail;(with_reducible refine HNs.out.mono ?_);rintro en w5 ⟨A5,m5,d5,rfl,k5,hb5⟩;have HB5:=jj (bgo HB3.out hb5);have K5:=jj k5;have hl5:=k5.len;have hmd:=hl5.2.1;have hdd:=hl5.2.2;clear k5 hl5 hb5 t0 t1 t2 t3 t4;go_wp2_with fail
  go_loopw [7] (fun z wr=>∃i:Nat,i≤m5∧z=.int .i64 (i:Int)∧Below w5.heap.size w5 wr) (fun z _=>m5 - (intOf z).toNat)
  case atStart=>exact ⟨0,Nat.zero_le _,rfl,Below.refl _ _⟩
  case round =>
    obtain ⟨i,hi,rfl,hb⟩:=hrel;obtain ⟨w6,hw6⟩:∃w6,w6=wr:=⟨wr,rfl⟩;subst hw6;have HB6:=jj hb;by_cases hlt:i<m5
    · (have hii:(i:Int)<(m5:Int):=by omega);obtain ⟨g,o,y,yA,ym,yd,rfl,hy,ry,x0,x1,x2,x3,x4⟩:=(K5.out.kept hb).at_ hlt;obtain ⟨kk,hkk⟩:=jx (y.kind);rw[hkk] at x0;have HKk:=jj hkk;clear hb;by_cases k9:kk<9
      · (have v1:¬kk≥15:=by omega);(have v2:¬kk≥9:=by omega);clear hkk hy ry k9;go_wp2;go_roundw
        case rel=>exact ⟨i+1,by omega,by go_num,HB6.out⟩
        case measure=>simp[intOf];omega
      by_cases k23:23<kk
      · (have v1:kk≥15:=by omega);(have v2:¬kk≤23:=by omega);(have v3:kk≥9:=by omega);(have v4:¬kk≤14:=by omega);clear hkk hy ry k9 k23;go_wp2;go_roundw
        case rel=>exact ⟨i+1,by omega,by go_num,HB6.out⟩
        case measure=>simp[intOf];omega
      by_cases k15:15≤kk
      · have v1:kk≥15:=k15;(have v2:kk≤23:=by omega);obtain ⟨a,E,ha,hE,haE,hEl,M,hM,hst⟩:=HPc.out y (List.mem_of_getElem? hy) 1 (by omega);rw[ha] at x2;rw[hE] at x3;rw[size_list] at hEl;have HFr:=jj (fun W=>jh0 1 (s.extract a E) (by rw[←size_list,jnu,List.length_take,List.length_drop,size_list];omega) W);rw[jnu,hM] at HFr;have HEq:=jj (show eqN false M y=true from (jlx M y).2 hst);(have n1:¬(a:Int)<0:=by omega);(have n2:¬(a:Int) > (E:Int):=by omega);(have n3:¬(E:Int) > (s.size:Int):=by omega);have d1:decide ((a:Int)<0)=false:=decide_eq_false n1;have d2:decide ((a:Int) > (E:Int))=false:=decide_eq_false n2;have d2':decide ((E:Int)<(a:Int))=false:=decide_eq_false n2;have d3:decide ((E:Int) > (s.size:Int))=false:=decide_eq_false n3;have d3':decide ((s.size:Int)<(E:Int))=false:=decide_eq_false n3;(have m2:¬E<a:=by omega);(have m3:¬s.size<E:=by omega);have dd2:decide (E<a)=false:=decide_eq_false m2;have dd3:decide (s.size<E)=false:=decide_eq_false m3;(have e1:(0:Int)≤(a:Int):=by omega);(have e2:(a:Int)≤(E:Int):=by omega);(have e3:(E:Int)≤(s.size:Int):=by omega);(have e4:(a:Int)≤(s.size:Int):=by omega);have Hry:=jj ry;have HX5:=jj (show FiveO w6 g (o+i*5) (.int .i64 kk) (.string (bs y.text)) (.int .i64 (a:Int)) (.int .i64 (E:Int)) (.slice yA ym yd) from ⟨x0,x1,x2,x3,x4⟩);have Hha:=jj ha;have HhE:=jj hE;clear ha hE haE hEl hM hst ry hy;go_wp2_with fail;go_quiet (fail);have Hwq:=jj (show Below w6.heap.size w6 (w6.drewN nq) from Drawn.below ⟨nq,rfl⟩ _);clear x0 x1 x2 x3 x4;generalize w6.drewN nq=wq at Hwq ⊢;obtain ⟨x0,x1,x2,x3,x4⟩:=HX5.out.keep Hwq.out;go_upto_region 19 with fail;clear x0 x1 x4
        go_cut [10,11,12] from 30 to 112 (fun q10 q11 q12 wx=>∃A8 m8 d8 p9,q10=.pointer (some ⟨p9,0,none⟩)∧q12=.int .i64 0∧FiveN wx p9 (.int .i64 M.kind) (.string (bs M.text)) (.int .i64 M.at_) (.int .i64 M.en) (.slice A8 m8 d8)∧NdS wx (fun _=>True) A8 m8 d8 M.kids∧Below wq.heap.size wq wx)
        case first =>
          obtain ⟨x,hx⟩:∃x,x=wq:=⟨_,rfl⟩;subst hx
          have HK:=jj (show ∀X:World,Below x.heap.size x X→((X.cell? ⟨g,o+i*5+2,none⟩=some (.int .i64 (a:Int))∧X.cell? ⟨g,o+i*5+3,none⟩=some (.int .i64 (E:Int)))∧Below x.heap.size x X) from fun X hb=>by
            obtain ⟨u0,u1,u2,u3,u4⟩:=(HX5.out.keep Hwq.out).keep hb
            exact ⟨⟨u2,u3⟩,hb⟩)
          have HKs:=jj (show ∀X Y:World,((X.cell? ⟨g,o+i*5+2,none⟩=some (.int .i64 (a:Int))∧X.cell? ⟨g,o+i*5+3,none⟩=some (.int .i64 (E:Int)))∧Below x.heap.size x X)→Below X.heap.size X Y→((Y.cell? ⟨g,o+i*5+2,none⟩=some (.int .i64 (a:Int))∧Y.cell? ⟨g,o+i*5+3,none⟩=some (.int .i64 (E:Int)))∧Below x.heap.size x Y) from fun X Y h hb=>HK.out Y (bgo h.2 hb));have HKb:=jj (show ∀X:World,((X.cell? ⟨g,o+i*5+2,none⟩=some (.int .i64 (a:Int))∧X.cell? ⟨g,o+i*5+3,none⟩=some (.int .i64 (E:Int)))∧Below x.heap.size x X)→Below x.heap.size x X from fun X h=>h.2);have HZ5:=jj (fun (X:World) (h:Below (x.alloc (.cells #[.int .i64 0,.string ⟨#[]⟩,.int .i64 0,.int .i64 0,.slice none 0 0] 25)).drew.heap.size (x.alloc (.cells #[.int .i64 0,.string ⟨#[]⟩,.int .i64 0,.int .i64 0,.slice none 0 0] 25)).drew X)=>(jae x (.int .i64 0) (.string ⟨#[]⟩) (.int .i64 0) (.int .i64 0) (.slice none 0 0) 25).keep (bgo (jba _) h));have HK5:=jj (fun (X:World) (h:Below x.heap.size x X) (u0 u1 u2 u3 u4:Value)=>HK.out _ (show Below x.heap.size x (((((X.setCell ⟨x.heap.size,0,none⟩ u0).setCell ⟨x.heap.size,1,none⟩ u1).setCell ⟨x.heap.size,2,none⟩ u2).setCell ⟨x.heap.size,3,none⟩ u3).setCell ⟨x.heap.size,4,none⟩ u4) from jaj h (Nat.le_refl _)));clear x2 x3
          go_region_held3 (fun w'=>((w'.cell? ⟨g,o+i*5+2,none⟩=some (.int .i64 (a:Int))∧w'.cell? ⟨g,o+i*5+3,none⟩=some (.int .i64 (E:Int)))∧Below x.heap.size x w'))
            (first
              | with_reducible assumption
              | (with_reducible refine HK5.out w8 hb8x _ _ _ _ _)
              | with_reducible exact HK.out _ hb8x
              | with_reducible exact HK.out _ (bgo hb8x (jak (Below.refl _ _) _))
              | with_reducible exact HK.out _ (jba _)
              | with_reducible exact HK.out _ (bgo (jba _) (jak (Below.refl _ _) _))
              | with_reducible exact HK.out _ (bgo (jak (Below.refl _ _) _) (jba _))
              | with_reducible exact HK.out _ (bgo (jak (Below.refl _ _) _) (jba _)))
            (first
              | (go_at_call 14;(with_reducible refine (HFr.out (x.alloc (.cells #[.int .i64 0,.string ⟨#[]⟩,.int .i64 0,.int .i64 0,.slice none 0 0] 25)).drew).mono ?_);intro en w8 hgot;obtain ⟨A8,m8,d8,rfl,hk,hb8⟩:=jnq hgot;have hb8x:=bgo (HKb.out _ (by assumption)) hb8;have f8:=HZ5.out _ hb8;clear hgot;obtain ⟨⟨f8l,y0,y1,y2,y3,y4⟩,v0,v1,v2,v3,v4⟩:=id f8)
              | (go_at_call 14;(with_reducible refine (HFr.out _).mono ?_);intro en w8 hgot;obtain ⟨A8,m8,d8,rfl,hk,hb8⟩:=jnq hgot;have hb8x:=bgo (HKb.out _ (by assumption)) hb8;clear hgot))
          · go_wp2_with fail;go_meet
            case rel=>exact ⟨A8,m8,d8,w8.heap.size,rfl,rfl,ja6 w8 (.int .i64 M.kind) (.string (bs M.text)) (.int .i64 M.at_) (.int .i64 M.en) (.slice A8 m8 d8) 25,(hk.kept (jak (Below.refl _ w8) (.cells #[.int .i64 M.kind,.string (bs M.text),.int .i64 M.at_,.int .i64 M.en,.slice A8 m8 d8] 25))).any,bgo hb8x (jak (Below.refl _ w8) (.cells #[.int .i64 M.kind,.string (bs M.text),.int .i64 M.at_,.int .i64 M.en,.slice A8 m8 d8] 25))⟩
          · (have hsz:(x.alloc (.cells #[.int .i64 0,.string ⟨#[]⟩,.int .i64 0,.int .i64 0,.slice none 0 0] 25)).drew.heap.size=x.heap.size+1:=by simp);go_wp2_with fail;go_meet
            case rel=>exact ⟨A8,m8,d8,x.heap.size,rfl,rfl,ja3 f8 _ _ _ _ _,NdS.map (W':=jex w8 x.heap.size (.int .i64 M.kind) (.string (bs M.text)) (.int .i64 M.at_) (.int .i64 M.en) (.slice A8 m8 d8)) hk (fun p hp _=>jd1 (by rw[hsz] at hp;omega)) (fun _ _ _=>trivial),jaj hb8x (Nat.le_refl _)⟩
        case rest =>
          obtain ⟨A8,m8,d8,p9,rfl,rfl,f9,k9,hb9⟩:=hcut;obtain ⟨w9,hw9⟩:∃w9,w9=wc:=⟨_,rfl⟩;subst hw9;have hb9:=bgo Hwq.out hb9;have HB9:=jj hb9;have HS:=jj (fun (X:World) (hX:Below w9.heap.size w9 X)=>pSame (sizeN M) M y X _ _ _ _ (Nat.le_refl _) ((jb7 k9).kept hX) ((jb7 (Hry.out.kept (bgo HB9.out hX)))));rw[HEq.out] at HS;rw[HKk.out,Hha.out,HhE.out] at HS;obtain ⟨-,z0,z1,z2,z3,z4⟩:=f9;obtain ⟨x0,x1,x2,x3,x4⟩:=HX5.out.keep hb9;clear hb9 k9;go_wp2_with fail;go_still_tail 8,(by kernel_rfl);change wpList _ _ _ _ _ w9.drew;go_wp2_with fail;(with_reducible refine (HS.out _ (jba w9)).mono ?_);rintro en w10 ⟨rfl,hb10⟩;have HB10:=jj (bgo (bgo HB6.out HB9.out) (bgo (jba w9) hb10));clear hb10;go_wp2;go_roundw
          case rel=>exact ⟨i+1,by omega,by go_num,HB10.out⟩
          case measure=>simp[intOf];omega
      · have v1:¬kk≥15:=k15;(have v3:kk≥9:=by omega);(have v4:kk≤14:=by omega);obtain ⟨a,E,ha,hE,haE,hEl,M,hM,hst⟩:=HPc.out y (List.mem_of_getElem? hy) 2 (by omega);rw[ha] at x2;rw[hE] at x3;rw[size_list] at hEl;have HFr:=jj (fun W=>jh0 2 (s.extract a E) (by rw[←size_list,jnu,List.length_take,List.length_drop,size_list];omega) W);rw[jnu,hM] at HFr;have HEq:=jj (show eqN false M y=true from (jlx M y).2 hst);(have n1:¬(a:Int)<0:=by omega);(have n2:¬(a:Int) > (E:Int):=by omega);(have n3:¬(E:Int) > (s.size:Int):=by omega);have d1:decide ((a:Int)<0)=false:=decide_eq_false n1;have d2:decide ((a:Int) > (E:Int))=false:=decide_eq_false n2;have d2':decide ((E:Int)<(a:Int))=false:=decide_eq_false n2;have d3:decide ((E:Int) > (s.size:Int))=false:=decide_eq_false n3;have d3':decide ((s.size:Int)<(E:Int))=false:=decide_eq_false n3;(have m2:¬E<a:=by omega);(have m3:¬s.size<E:=by omega);have dd2:decide (E<a)=false:=decide_eq_false m2;have dd3:decide (s.size<E)=false:=decide_eq_false m3;(have e1:(0:Int)≤(a:Int):=by omega);(have e2:(a:Int)≤(E:Int):=by omega);(have e3:(E:Int)≤(s.size:Int):=by omega);(have e4:(a:Int)≤(s.size:Int):=by omega);have Hry:=jj ry;have HX5:=jj (show FiveO w6 g (o+i*5) (.int .i64 kk) (.string (bs y.text)) (.int .i64 (a:Int)) (.int .i64 (E:Int)) (.slice yA ym yd) from ⟨x0,x1,x2,x3,x4⟩);have Hha:=jj ha;have HhE:=jj hE;clear ha hE haE hEl hM hst ry hy;go_wp2_with fail;go_quiet (fail);have Hwq:=jj (show Below w6.heap.size w6 (w6.drewN nq) from Drawn.below ⟨nq,rfl⟩ _);clear x0 x1 x2 x3 x4;generalize w6.drewN nq=wq at Hwq ⊢;obtain ⟨x0,x1,x2,x3,x4⟩:=HX5.out.keep Hwq.out;go_upto_region 19 with fail;clear x0 x1 x4
        go_cut [10,11,12] from 30 to 112 (fun q10 q11 q12 wx=>∃A8 m8 d8 p9,q10=.pointer (some ⟨p9,0,none⟩)∧q12=.int .i64 0∧FiveN wx p9 (.int .i64 M.kind) (.string (bs M.text)) (.int .i64 M.at_) (.int .i64 M.en) (.slice A8 m8 d8)∧NdS wx (fun _=>True) A8 m8 d8 M.kids∧Below wq.heap.size wq wx)
        case first =>
          obtain ⟨x,hx⟩:∃x,x=wq:=⟨_,rfl⟩;subst hx
          have HK:=jj (show ∀X:World,Below x.heap.size x X→((X.cell? ⟨g,o+i*5+2,none⟩=some (.int .i64 (a:Int))∧X.cell? ⟨g,o+i*5+3,none⟩=some (.int .i64 (E:Int)))∧Below x.heap.size x X) from fun X hb=>by
            obtain ⟨u0,u1,u2,u3,u4⟩:=(HX5.out.keep Hwq.out).keep hb
            exact ⟨⟨u2,u3⟩,hb⟩)
          have HKs:=jj (show ∀X Y:World,((X.cell? ⟨g,o+i*5+2,none⟩=some (.int .i64 (a:Int))∧X.cell? ⟨g,o+i*5+3,none⟩=some (.int .i64 (E:Int)))∧Below x.heap.size x X)→Below X.heap.size X Y→((Y.cell? ⟨g,o+i*5+2,none⟩=some (.int .i64 (a:Int))∧Y.cell? ⟨g,o+i*5+3,none⟩=some (.int .i64 (E:Int)))∧Below x.heap.size x Y) from fun X Y h hb=>HK.out Y (bgo h.2 hb));have HKb:=jj (show ∀X:World,((X.cell? ⟨g,o+i*5+2,none⟩=some (.int .i64 (a:Int))∧X.cell? ⟨g,o+i*5+3,none⟩=some (.int .i64 (E:Int)))∧Below x.heap.size x X)→Below x.heap.size x X from fun X h=>h.2);have HZ5:=jj (fun (X:World) (h:Below (x.alloc (.cells #[.int .i64 0,.string ⟨#[]⟩,.int .i64 0,.int .i64 0,.slice none 0 0] 25)).drew.heap.size (x.alloc (.cells #[.int .i64 0,.string ⟨#[]⟩,.int .i64 0,.int .i64 0,.slice none 0 0] 25)).drew X)=>(jae x (.int .i64 0) (.string ⟨#[]⟩) (.int .i64 0) (.int .i64 0) (.slice none 0 0) 25).keep (bgo (jba _) h));have HK5:=jj (fun (X:World) (h:Below x.heap.size x X) (u0 u1 u2 u3 u4:Value)=>HK.out _ (show Below x.heap.size x (((((X.setCell ⟨x.heap.size,0,none⟩ u0).setCell ⟨x.heap.size,1,none⟩ u1).setCell ⟨x.heap.size,2,none⟩ u2).setCell ⟨x.heap.size,3,none⟩ u3).setCell ⟨x.heap.size,4,none⟩ u4) from jaj h (Nat.le_refl _)));clear x2 x3
          go_region_held3 (fun w'=>((w'.cell? ⟨g,o+i*5+2,none⟩=some (.int .i64 (a:Int))∧w'.cell? ⟨g,o+i*5+3,none⟩=some (.int .i64 (E:Int)))∧Below x.heap.size x w'))
            (first
              | with_reducible assumption
              | (with_reducible refine HK5.out w8 hb8x _ _ _ _ _)
              | with_reducible exact HK.out _ hb8x
              | with_reducible exact HK.out _ (bgo hb8x (jak (Below.refl _ _) _))
              | with_reducible exact HK.out _ (jba _)
              | with_reducible exact HK.out _ (bgo (jba _) (jak (Below.refl _ _) _))
              | with_reducible exact HK.out _ (bgo (jak (Below.refl _ _) _) (jba _))
              | with_reducible exact HK.out _ (bgo (jak (Below.refl _ _) _) (jba _)))
            (first
              | (go_at_call 14;(with_reducible refine (HFr.out (x.alloc (.cells #[.int .i64 0,.string ⟨#[]⟩,.int .i64 0,.int .i64 0,.slice none 0 0] 25)).drew).mono ?_);intro en w8 hgot;obtain ⟨A8,m8,d8,rfl,hk,hb8⟩:=jnq hgot;have hb8x:=bgo (HKb.out _ (by assumption)) hb8;have f8:=HZ5.out _ hb8;clear hgot;obtain ⟨⟨f8l,y0,y1,y2,y3,y4⟩,v0,v1,v2,v3,v4⟩:=id f8)
              | (go_at_call 14;(with_reducible refine (HFr.out _).mono ?_);intro en w8 hgot;obtain ⟨A8,m8,d8,rfl,hk,hb8⟩:=jnq hgot;have hb8x:=bgo (HKb.out _ (by assumption)) hb8;clear hgot))
          · go_wp2_with fail;go_meet
            case rel=>exact ⟨A8,m8,d8,w8.heap.size,rfl,rfl,ja6 w8 (.int .i64 M.kind) (.string (bs M.text)) (.int .i64 M.at_) (.int .i64 M.en) (.slice A8 m8 d8) 25,(hk.kept (jak (Below.refl _ w8) (.cells #[.int .i64 M.kind,.string (bs M.text),.int .i64 M.at_,.int .i64 M.en,.slice A8 m8 d8] 25))).any,bgo hb8x (jak (Below.refl _ w8) (.cells #[.int .i64 M.kind,.string (bs M.text),.int .i64 M.at_,.int .i64 M.en,.slice A8 m8 d8] 25))⟩
          · (have hsz:(x.alloc (.cells #[.int .i64 0,.string ⟨#[]⟩,.int .i64 0,.int .i64 0,.slice none 0 0] 25)).drew.heap.size=x.heap.size+1:=by simp);go_wp2_with fail;go_meet
            case rel=>exact ⟨A8,m8,d8,x.heap.size,rfl,rfl,ja3 f8 _ _ _ _ _,NdS.map (W':=jex w8 x.heap.size (.int .i64 M.kind) (.string (bs M.text)) (.int .i64 M.at_) (.int .i64 M.en) (.slice A8 m8 d8)) hk (fun p hp _=>jd1 (by rw[hsz] at hp;omega)) (fun _ _ _=>trivial),jaj hb8x (Nat.le_refl _)⟩
        case rest =>
          obtain ⟨A8,m8,d8,p9,rfl,rfl,f9,k9,hb9⟩:=hcut;obtain ⟨w9,hw9⟩:∃w9,w9=wc:=⟨_,rfl⟩;subst hw9;have hb9:=bgo Hwq.out hb9;have HB9:=jj hb9;have HS:=jj (fun (X:World) (hX:Below w9.heap.size w9 X)=>pSame (sizeN M) M y X _ _ _ _ (Nat.le_refl _) ((jb7 k9).kept hX) ((jb7 (Hry.out.kept (bgo HB9.out hX)))));rw[HEq.out] at HS;rw[HKk.out,Hha.out,HhE.out] at HS;obtain ⟨-,z0,z1,z2,z3,z4⟩:=f9;obtain ⟨x0,x1,x2,x3,x4⟩:=HX5.out.keep hb9;clear hb9 k9;go_wp2_with fail;go_still_tail 8,(by kernel_rfl);change wpList _ _ _ _ _ w9.drew;go_wp2_with fail;(with_reducible refine (HS.out _ (jba w9)).mono ?_);rintro en w10 ⟨rfl,hb10⟩;have HB10:=jj (bgo (bgo HB6.out HB9.out) (bgo (jba w9) hb10));clear hb10;go_wp2;go_roundw
          case rel=>exact ⟨i+1,by omega,by go_num,HB10.out⟩
          case measure=>simp[intOf];omega
    · (have hii:¬(i:Int)<(m5:Int):=by omega);clear hb;go_wp2;go_ret;exact ⟨rfl,bgo HB5.out HB6.out⟩
end
end Go.Proofs.YtonoklmobocikaaGreatDoor
