/- Lemmas. -/
import Derived.Test.YtonoklmobocikaaGreatDoorK27
set_option linter.unusedVariables false
set_option linter.unusedSimpArgs false
set_option maxRecDepth 20000
set_option maxHeartbeats 6400000
namespace Go.Proofs.YtonoklmobocikaaGreatDoor
section
open Go.RowKit
theorem pmodule {k a e:Int} {x:List UInt8} {l:List Nd} {B:Option Addr} {m d:Nat} {p:Nat} (hp:∀y∈l,ElC 89 p (fun n=>shO n .decl) y) {W:World} {u:Value} {L:List Tk} (hS:ShS p W u L) (hv:NdS W (fun g=>g<p) B m d l) (hL:L.length+2*(ja8 l+1)≤1999999999) :
    Calls Tryz.prog 44 #[.pointer (some ⟨p,0,none⟩),.agg #[.int .i64 k,.string (bs x),.int .i64 a,.int .i64 e,.slice B m d]] W (ExG p W u L (modO (.mk k x a e l))):=by
  obtain ⟨r,hr⟩:=jx (modO (.mk k x a e l));rw[hr];have HQ:=jj (show (if k=1∧x=[] then jc9 (shG jn4 (l.takeWhile k2)) (shL (l.dropWhile k2) .decl) else none)=r from hr);have hb1:=jak (Below.refl W.heap.size W) (.cells #[.int .i64 k,.string (bs x),.int .i64 a,.int .i64 e,.slice B m d] 25);have hF:=ja6 W (.int .i64 k) (.string (bs x)) (.int .i64 a) (.int .i64 e) (.slice B m d) 25;obtain ⟨w1,hw1⟩:=jx (W.alloc (.cells #[.int .i64 k,.string (bs x),.int .i64 a,.int .i64 e,.slice B m d] 25));rw[hw1] at hb1 hF;have hl:=hv.len;have hmd:=hl.2.1;have hdd:=hl.2.2;have HLe:=jj hl.1.symm;have HN:=jj (hv.kept hb1);have HW:=jj hw1;have HF:=jj hF;have HP:=jj hp;have HL:=jj hL;have S1:=jj (hS.go hb1);have F1:=jj (ShF.of (Nat.le_of_lt hS.lt) hb1 u);(have hnp:W.heap.size≠p:=fun e=>by have:=hS.lt;omega);have hno':u.ownBlock≠some W.heap.size:=hS.notown (Nat.le_refl _);obtain ⟨-,t0,t1,t2,t3,t4⟩:=hF;clear hv hl hr hw1 hb1 hp hS hL;go_enter Tryz.func44,Tryz.ntmps44;go_upto_region 1 with fail;rw[HW.out];go_wp2_with fail;clear t0 t1 t2 t3 t4
  go_loopw [5] (fun y wr=>∃i:Nat,i≤m∧y=.int .i64 (i:Int)∧(l.take i).all k2=true∧wr=w1) (fun y _=>m - (intOf y).toNat)
  case atStart=>exact ⟨0,Nat.zero_le _,rfl,rfl,rfl⟩
  case round =>
    obtain ⟨i,hi,rfl,hm,hw3⟩:=hrel;obtain ⟨w3,h3⟩:∃w3,w3=wr:=⟨wr,rfl⟩;subst h3;have Hw3:=jj hw3;have S3:=jj (show ShS p w3 u L by rw[hw3];exact S1.out);have G3:=jj (show ShF p w1 w3 u u by rw[hw3];exact ShF.refl _ _ _);have F3:=jj (show ShF p W w3 u u by rw[hw3];exact F1.out);have hF3:=HF.out;rw[←hw3] at hF3;obtain ⟨-,t0,t1,t2,t3,t4⟩:=hF3;clear hw3;by_cases hlt:i<m
    · (have hii:(i:Int)<(m:Int):=by omega);obtain ⟨g,o,y,yA,ym,yd,rfl,hy,ry,x0,x1,x2,x3,x4⟩:=(HN.out.lowP G3.out.below).at_ hlt;by_cases hy2:y.kind=2
      · have v1:(y.kind==2)=true:=beq_iff_eq.2 hy2;have Hm:=jj (take_k2 hm hy v1);clear hy2 hy ry hm;go_wp2;go_roundw
        case rel=>exact ⟨i+1,by omega,by go_num,Hm.out,Hw3.out⟩
        case measure=>simp[intOf];omega
      · have v1:(y.kind==2)=false:=beq_eq_false_iff_ne.2 hy2
        have hno:∀z,l[i]?=some z→k2 z=false:=fun z hz=>by
          (obtain rfl:y=z:=by rw[hy] at hz;exact Option.some.inj hz);exact v1
        clear hy2 hy ry;(have hd0:¬d - i=0:=by omega);(have hd1:¬d=i:=by omega);by_cases hk:k=1
        case neg =>
          have q1:(k==1)=false:=beq_eq_false_iff_ne.2 hk;have Hn:=jj (show none=r by rw[←HQ.out,if_neg (fun h=>hk h.1)]);clear hk hm hno;go_wp2;go_ret;obtain rfl:=Hn.out;exact ⟨_,_,S3.out,F3.out,rfl⟩
        have q1:(k==1)=true:=beq_iff_eq.2 hk;by_cases hx0:x=[]
        case neg =>
          (have q2:((bs x).toList==[])=false:=by rw[Lib.toList_data,jac];exact beq_eq_false_iff_ne.2 hx0);have Hn:=jj (show none=r by rw[←HQ.out,if_neg (fun h=>hx0 h.2)]);clear hk hx0 hm hno;go_wp2;go_ret;obtain rfl:=Hn.out;exact ⟨_,_,S3.out,F3.out,rfl⟩
        (have q2:((bs x).toList==[])=true:=by rw[Lib.toList_data,jac];exact beq_iff_eq.2 hx0);have hte:=tw_at2 hm hno;have HQ:=jj (show jc9 (shG jn4 (l.take i)) (shL (l.drop i) .decl)=r by rw[←HQ.out,if_pos ⟨hk,hx0⟩,hte.1,hte.2]);have hss:=jkf l i;have HC1:=jj (jhl jnd (f:=jn4) S3.out ((HN.out.lowP G3.out.below).take_ (i:=i) (by omega)) (fun y _=>timp p) (fun y _ ts h=>jj6 h) (by have:=HL.out;omega) 0 0 rfl 9223372036854775807 none (by decide) (fun k hk=>by cases hk) rfl);rw[ji1] at HC1;obtain ⟨r1,hr1⟩:∃o,shG jn4 (l.take i)=o:=⟨_,rfl⟩;have HQ:=jj HQ.out;rw[hr1] at HC1 HQ
        have HB1:=jj (show ∀t,r1=some t→(L++t).length+2*ja8 (l.drop i)≤1999999999 from fun t ht=>by
          have h1:=HL.out;have h2:=jku (fun y ts h=>jj6 h) _ t (hr1.trans ht);rw[List.length_append]
          omega)
        clear hk hx0 hm hno hte hr1 hss;go_wp2_with fail;(with_reducible refine HC1.out.mono ?_);rintro e5 w5 ⟨u5,L5,s5,f5,h5⟩;have G5:=jj (G3.out.trans f5);obtain ⟨-,z0,z1,z2,z3,z4⟩:=HF.out.shf G5.out hnp hno'
        cases r1 with
        | none =>
          obtain rfl:=h5;have S5:=jj s5;have Hn:=jj (show none=r by rw[←HQ.out];rfl);clear s5 f5;go_wp2;go_ret;obtain rfl:=Hn.out;exact ⟨_,_,S5.out,F1.out.trans G5.out,rfl⟩
        | some t1 =>
          obtain ⟨rfl,hL5⟩:=h5;subst hL5;have S5:=jj s5;have hbl:=HB1.out t1 rfl;clear s5 f5;have HC2:=jj (jhl jlj (f:=fun n=>shO n .decl) S5.out ((HN.out.lowP G5.out.below:NdS _ (fun g=>g<p) (some ⟨g,o,none⟩) m d l).drop_ (i:=i) (by omega)) (fun y hy=>HP.out y (List.mem_of_mem_drop hy)) (fun y _ ts h=>jbn y .decl ts h) hbl 0 0 rfl 9223372036854775807 none (by decide) (fun k hk=>by cases hk) rfl);rw[ji1,←jdk] at HC2;obtain ⟨r2,hr2⟩:∃o,shL (l.drop i) .decl=o:=⟨_,rfl⟩;have HQ:=jj HQ.out;rw[hr2] at HC2 HQ;clear hr2 hbl;go_wp2_with fail;(with_reducible refine HC2.out.mono ?_);rintro e6 w6 ⟨u6,L6,s6,f6,h6⟩;have G6:=jj (G5.out.trans f6);have S6:=jj s6;clear s6 f6
          cases r2 with
          | none =>
            obtain rfl:=h6;have Hn:=jj (show none=r by rw[←HQ.out];rfl);go_wp2;go_ret;obtain rfl:=Hn.out;exact ⟨_,_,S6.out,F1.out.trans G6.out,rfl⟩
          | some t2 =>
            obtain ⟨rfl,hL6⟩:=h6;have Hn:=jj (show some (t1++t2)=r by rw[←HQ.out];rfl);have HL6:=jj hL6;clear hL6;go_wp2;go_ret;obtain rfl:=Hn.out;exact ⟨_,_,S6.out,F1.out.trans G6.out,rfl,by rw[HL6.out,List.append_assoc]⟩
    · have hii:¬(i:Int)<(m:Int):=by omega
      have hno:∀z,l[i]?=some z→k2 z=false:=fun z hz=>by
        rw[List.getElem?_eq_none (by rw[←HLe.out];omega)] at hz;cases hz
      by_cases hd0:d - i=0
      ·
        (have hmi:m - i=0:=by omega);(have hdi:d=i:=by omega);by_cases hk:k=1
        case neg =>
          have q1:(k==1)=false:=beq_eq_false_iff_ne.2 hk;have Hn:=jj (show none=r by rw[←HQ.out,if_neg (fun h=>hk h.1)]);clear hk hm hno;go_wp2;go_ret;obtain rfl:=Hn.out;exact ⟨_,_,S3.out,F3.out,rfl⟩
        have q1:(k==1)=true:=beq_iff_eq.2 hk;by_cases hx0:x=[]
        case neg =>
          (have q2:((bs x).toList==[])=false:=by rw[Lib.toList_data,jac];exact beq_eq_false_iff_ne.2 hx0);have Hn:=jj (show none=r by rw[←HQ.out,if_neg (fun h=>hx0 h.2)]);clear hk hx0 hm hno;go_wp2;go_ret;obtain rfl:=Hn.out;exact ⟨_,_,S3.out,F3.out,rfl⟩
        (have q2:((bs x).toList==[])=true:=by rw[Lib.toList_data,jac];exact beq_iff_eq.2 hx0);have hte:=tw_at2 hm hno;have HQ:=jj (show jc9 (shG jn4 (l.take i)) (shL (l.drop i) .decl)=r by rw[←HQ.out,if_pos ⟨hk,hx0⟩,hte.1,hte.2]);have hss:=jkf l i;have HC1:=jj (jhl jnd (f:=jn4) S3.out ((by have h:=(HN.out.lowP G3.out.below).take_ (i:=i) (by omega);rw[hdi] at h;exact h:NdS w3 (fun g=>g<p) B i i (l.take i))) (fun y _=>timp p) (fun y _ ts h=>jj6 h) (by have:=HL.out;omega) 0 0 rfl 9223372036854775807 none (by decide) (fun k hk=>by cases hk) rfl);rw[ji1] at HC1;obtain ⟨r1,hr1⟩:∃o,shG jn4 (l.take i)=o:=⟨_,rfl⟩;have HQ:=jj HQ.out;rw[hr1] at HC1 HQ
        have HB1:=jj (show ∀t,r1=some t→(L++t).length+2*ja8 (l.drop i)≤1999999999 from fun t ht=>by
          have h1:=HL.out;have h2:=jku (fun y ts h=>jj6 h) _ t (hr1.trans ht);rw[List.length_append]
          omega)
        clear hk hx0 hm hno hte hr1 hss;go_wp2_with fail;(with_reducible refine HC1.out.mono ?_);rintro e5 w5 ⟨u5,L5,s5,f5,h5⟩;have G5:=jj (G3.out.trans f5);obtain ⟨-,z0,z1,z2,z3,z4⟩:=HF.out.shf G5.out hnp hno'
        cases r1 with
        | none =>
          obtain rfl:=h5;have S5:=jj s5;have Hn:=jj (show none=r by rw[←HQ.out];rfl);clear s5 f5;go_wp2;go_ret;obtain rfl:=Hn.out;exact ⟨_,_,S5.out,F1.out.trans G5.out,rfl⟩
        | some t1 =>
          obtain ⟨rfl,hL5⟩:=h5;subst hL5;have S5:=jj s5;have hbl:=HB1.out t1 rfl;clear s5 f5;have HC2:=jj (jhl jlj (f:=fun n=>shO n .decl) S5.out (show NdS w5 (fun g=>g<p) B 0 0 (l.drop i) from by rw[show l.drop i=[] from List.drop_of_length_le (by rw[←HLe.out];omega)];exact NdS.nil0 (by decide)) (fun y hy=>HP.out y (List.mem_of_mem_drop hy)) (fun y _ ts h=>jbn y .decl ts h) hbl 0 0 rfl 9223372036854775807 none (by decide) (fun k hk=>by cases hk) rfl);rw[ji1,←jdk] at HC2;obtain ⟨r2,hr2⟩:∃o,shL (l.drop i) .decl=o:=⟨_,rfl⟩;have HQ:=jj HQ.out;rw[hr2] at HC2 HQ;clear hr2 hbl;go_wp2_with fail;(with_reducible refine HC2.out.mono ?_);rintro e6 w6 ⟨u6,L6,s6,f6,h6⟩;have G6:=jj (G5.out.trans f6);have S6:=jj s6;clear s6 f6
          cases r2 with
          | none =>
            obtain rfl:=h6;have Hn:=jj (show none=r by rw[←HQ.out];rfl);go_wp2;go_ret;obtain rfl:=Hn.out;exact ⟨_,_,S6.out,F1.out.trans G6.out,rfl⟩
          | some t2 =>
            obtain ⟨rfl,hL6⟩:=h6;have Hn:=jj (show some (t1++t2)=r by rw[←HQ.out];rfl);have HL6:=jj hL6;clear hL6;go_wp2;go_ret;obtain rfl:=Hn.out;exact ⟨_,_,S6.out,F1.out.trans G6.out,rfl,by rw[HL6.out,List.append_assoc]⟩
      · cases B with
        | none =>
          have hm0:m=0:=by
            rcases Nat.eq_zero_or_pos m with h | h
            · exact h
            · obtain ⟨g,o,e⟩:=HN.out.addr h;cases e
          (have hi0:i=0:=by omega);subst hi0;by_cases hk:k=1
          case neg =>
            have q1:(k==1)=false:=beq_eq_false_iff_ne.2 hk;have Hn:=jj (show none=r by rw[←HQ.out,if_neg (fun h=>hk h.1)]);clear hk hm hno;go_wp2;go_ret;obtain rfl:=Hn.out;exact ⟨_,_,S3.out,F3.out,rfl⟩
          have q1:(k==1)=true:=beq_iff_eq.2 hk;by_cases hx0:x=[]
          case neg =>
            (have q2:((bs x).toList==[])=false:=by rw[Lib.toList_data,jac];exact beq_eq_false_iff_ne.2 hx0);have Hn:=jj (show none=r by rw[←HQ.out,if_neg (fun h=>hx0 h.2)]);clear hk hx0 hm hno;go_wp2;go_ret;obtain rfl:=Hn.out;exact ⟨_,_,S3.out,F3.out,rfl⟩
          (have q2:((bs x).toList==[])=true:=by rw[Lib.toList_data,jac];exact beq_iff_eq.2 hx0);have hte:=tw_at2 hm hno;have HQ:=jj (show jc9 (shG jn4 (l.take 0)) (shL (l.drop 0) .decl)=r by rw[←HQ.out,if_pos ⟨hk,hx0⟩,hte.1,hte.2]);have hss:=jkf l 0;have HC1:=jj (jhl jnd (f:=jn4) S3.out (show NdS w3 (fun g=>g<p) none 0 d (l.take 0) from (HN.out.lowP G3.out.below).take_ (i:=0) (by omega)) (fun y _=>timp p) (fun y _ ts h=>jj6 h) (by have:=HL.out;omega) 0 0 rfl 9223372036854775807 none (by decide) (fun k hk=>by cases hk) rfl);rw[ji1] at HC1;obtain ⟨r1,hr1⟩:∃o,shG jn4 (l.take 0)=o:=⟨_,rfl⟩;have HQ:=jj HQ.out;rw[hr1] at HC1 HQ
          have HB1:=jj (show ∀t,r1=some t→(L++t).length+2*ja8 (l.drop 0)≤1999999999 from fun t ht=>by
            have h1:=HL.out;have h2:=jku (fun y ts h=>jj6 h) _ t (hr1.trans ht);rw[List.length_append]
            omega)
          clear hk hx0 hm hno hte hr1 hss;go_wp2_with fail;(with_reducible refine HC1.out.mono ?_);rintro e5 w5 ⟨u5,L5,s5,f5,h5⟩;have G5:=jj (G3.out.trans f5);obtain ⟨-,z0,z1,z2,z3,z4⟩:=HF.out.shf G5.out hnp hno'
          cases r1 with
          | none =>
            obtain rfl:=h5;have S5:=jj s5;have Hn:=jj (show none=r by rw[←HQ.out];rfl);clear s5 f5;go_wp2;go_ret;obtain rfl:=Hn.out;exact ⟨_,_,S5.out,F1.out.trans G5.out,rfl⟩
          | some t1 =>
            obtain ⟨rfl,hL5⟩:=h5;subst hL5;have S5:=jj s5;have hbl:=HB1.out t1 rfl;clear s5 f5;have HC2:=jj (jhl jlj (f:=fun n=>shO n .decl) S5.out (show NdS w5 (fun g=>g<p) none 0 d (l.drop 0) from (by have:=HN.out.lowP G5.out.below;rw[hm0] at this;exact this)) (fun y hy=>HP.out y (List.mem_of_mem_drop hy)) (fun y _ ts h=>jbn y .decl ts h) hbl 0 0 rfl 9223372036854775807 none (by decide) (fun k hk=>by cases hk) rfl);rw[ji1,←jdk] at HC2;obtain ⟨r2,hr2⟩:∃o,shL (l.drop 0) .decl=o:=⟨_,rfl⟩;have HQ:=jj HQ.out;rw[hr2] at HC2 HQ;clear hr2 hbl;go_wp2_with fail;(with_reducible refine HC2.out.mono ?_);rintro e6 w6 ⟨u6,L6,s6,f6,h6⟩;have G6:=jj (G5.out.trans f6);have S6:=jj s6;clear s6 f6
            cases r2 with
            | none =>
              obtain rfl:=h6;have Hn:=jj (show none=r by rw[←HQ.out];rfl);go_wp2;go_ret;obtain rfl:=Hn.out;exact ⟨_,_,S6.out,F1.out.trans G6.out,rfl⟩
            | some t2 =>
              obtain ⟨rfl,hL6⟩:=h6;have Hn:=jj (show some (t1++t2)=r by rw[←HQ.out];rfl);have HL6:=jj hL6;clear hL6;go_wp2;go_ret;obtain rfl:=Hn.out;exact ⟨_,_,S6.out,F1.out.trans G6.out,rfl,by rw[HL6.out,List.append_assoc]⟩
        | some ad =>
          obtain ⟨g,o,q⟩:=ad;by_cases hk:k=1
          case neg =>
            have q1:(k==1)=false:=beq_eq_false_iff_ne.2 hk;have Hn:=jj (show none=r by rw[←HQ.out,if_neg (fun h=>hk h.1)]);clear hk hm hno;go_wp2;go_ret;obtain rfl:=Hn.out;exact ⟨_,_,S3.out,F3.out,rfl⟩
          have q1:(k==1)=true:=beq_iff_eq.2 hk;by_cases hx0:x=[]
          case neg =>
            (have q2:((bs x).toList==[])=false:=by rw[Lib.toList_data,jac];exact beq_eq_false_iff_ne.2 hx0);have Hn:=jj (show none=r by rw[←HQ.out,if_neg (fun h=>hx0 h.2)]);clear hk hx0 hm hno;go_wp2;go_ret;obtain rfl:=Hn.out;exact ⟨_,_,S3.out,F3.out,rfl⟩
          (have q2:((bs x).toList==[])=true:=by rw[Lib.toList_data,jac];exact beq_iff_eq.2 hx0);have hte:=tw_at2 hm hno;have HQ:=jj (show jc9 (shG jn4 (l.take i)) (shL (l.drop i) .decl)=r by rw[←HQ.out,if_pos ⟨hk,hx0⟩,hte.1,hte.2]);have hss:=jkf l i;have HC1:=jj (jhl jnd (f:=jn4) S3.out ((HN.out.lowP G3.out.below).take_ (i:=i) (by omega)) (fun y _=>timp p) (fun y _ ts h=>jj6 h) (by have:=HL.out;omega) 0 0 rfl 9223372036854775807 none (by decide) (fun k hk=>by cases hk) rfl);rw[ji1] at HC1;obtain ⟨r1,hr1⟩:∃o,shG jn4 (l.take i)=o:=⟨_,rfl⟩;have HQ:=jj HQ.out;rw[hr1] at HC1 HQ
          have HB1:=jj (show ∀t,r1=some t→(L++t).length+2*ja8 (l.drop i)≤1999999999 from fun t ht=>by
            have h1:=HL.out;have h2:=jku (fun y ts h=>jj6 h) _ t (hr1.trans ht);rw[List.length_append]
            omega)
          clear hk hx0 hm hno hte hr1 hss;go_wp2_with fail;(with_reducible refine HC1.out.mono ?_);rintro e5 w5 ⟨u5,L5,s5,f5,h5⟩;have G5:=jj (G3.out.trans f5);obtain ⟨-,z0,z1,z2,z3,z4⟩:=HF.out.shf G5.out hnp hno'
          cases r1 with
          | none =>
            obtain rfl:=h5;have S5:=jj s5;have Hn:=jj (show none=r by rw[←HQ.out];rfl);clear s5 f5;go_wp2;go_ret;obtain rfl:=Hn.out;exact ⟨_,_,S5.out,F1.out.trans G5.out,rfl⟩
          | some t1 =>
            obtain ⟨rfl,hL5⟩:=h5;subst hL5;have S5:=jj s5;have hbl:=HB1.out t1 rfl;clear s5 f5
            have HC2:=jj (jhl jlj (f:=fun n=>shO n .decl) S5.out (show NdS w5 (fun g=>g<p) (some ((⟨g,o,q⟩:Addr).add (i*5))) (m - i) (d - i) (l.drop i) from by
                have hN5:=HN.out.lowP G5.out.below;by_cases hmi:m - i=0
                · rw[hmi,show l.drop i=[] from List.drop_of_length_le (by rw[←HLe.out];omega)];exact NdS.nil0 (by omega)
                · obtain ⟨g',o',e⟩:=hN5.addr (by omega);cases e;rw[show (⟨g,o,none⟩:Addr).add (i*5)=⟨g,o+i*5,none⟩ from by unfold Addr.add;split<;>simp_all]
                  exact hN5.drop_ (i:=i) (by omega)) (fun y hy=>HP.out y (List.mem_of_mem_drop hy)) (fun y _ ts h=>jbn y .decl ts h) hbl 0 0 rfl 9223372036854775807 none (by decide) (fun k hk=>by cases hk) rfl)
            rw[ji1,←jdk] at HC2;obtain ⟨r2,hr2⟩:∃o,shL (l.drop i) .decl=o:=⟨_,rfl⟩;have HQ:=jj HQ.out;rw[hr2] at HC2 HQ;clear hr2 hbl;go_wp2_with fail;(with_reducible refine HC2.out.mono ?_);rintro e6 w6 ⟨u6,L6,s6,f6,h6⟩;have G6:=jj (G5.out.trans f6);have S6:=jj s6;clear s6 f6
            cases r2 with
            | none =>
              obtain rfl:=h6;have Hn:=jj (show none=r by rw[←HQ.out];rfl);go_wp2;go_ret;obtain rfl:=Hn.out;exact ⟨_,_,S6.out,F1.out.trans G6.out,rfl⟩
            | some t2 =>
              obtain ⟨rfl,hL6⟩:=h6;have Hn:=jj (show some (t1++t2)=r by rw[←HQ.out];rfl);have HL6:=jj hL6;clear hL6;go_wp2;go_ret;obtain rfl:=Hn.out;exact ⟨_,_,S6.out,F1.out.trans G6.out,rfl,by rw[HL6.out,List.append_assoc]⟩
end
section
open Go.RowKit
theorem tx_mem:∀(n y:Nd),y∈jca n→y.text.length≤txN n:=by
  intro n
  induction h:sizeN n using Nat.strongRecOn generalizing n with
  | _ s ih =>
    intro y hy;obtain ⟨k,x,a,e,l⟩:=n;rw[jca] at hy;rw[txN];rcases List.mem_cons.1 hy with rfl | hy
    · exact Nat.le_add_right _ _
    · rw[sizeN] at h
      have key:∀l:List Nd,ja8 l<s→y∈jc7 l→y.text.length≤txL l:=by
        intro l
        induction l with
        | nil=>intro _ h;rw[jc7] at h;cases h
        | cons n l ihl =>
          intro hs h;rw[ja8] at hs;rw[jc7] at h;rw[txL];rcases List.mem_append.1 h with h | h
          · have:=ih (sizeN n) (by omega) n rfl y h;omega
          · have:=ihl (by omega) h;omega
      have:=key l (by omega) hy;omega
theorem shG_sum {f:Nd→Option (List Tk)} (hf:∀y ts,f y=some ts→jib ts≤txN y):∀(l:List Nd) (ts:List Tk),shG f l=some ts→jib ts≤txL l
  | [],ts,h=>by rw[shG] at h;cases h;simp[jib]
  | n :: l,ts,h=>by
    rw[shG] at h
    obtain ⟨u,v,h1,h2,rfl⟩:=jhe h
    have:=hf n u h1
    have:=shG_sum hf l v h2
    rw[jkc,txL]
    omega
theorem imp_sum {y:Nd} {ts:List Tk} (h:jn4 y=some ts):jib ts≤txN y:=by
  obtain ⟨k,x,a,e,l⟩:=y;unfold jn4 lfO at h;split at h
  · cases h;show x.length+0≤txN _;rw[txN];omega
  · cases h
theorem txL_app (l r:List Nd):txL (l++r)=txL l+txL r:=by
  induction l with
  | nil=>simp[txL]
  | cons n l ih=>rw[List.cons_append,txL,txL,ih];omega
theorem mod_toks {n:Nd} {ts:List Tk} (h:modO n=some ts):ts.length≤2*sizeN n∧jib ts≤txN n:=by
  obtain ⟨k,x,a,e,l⟩:=n;unfold modO at h;split at h
  · obtain ⟨u,v,h1,h2,rfl⟩:=jhe h;rw[jdk] at h2;(have hsp:ja8 (l.takeWhile k2)+ja8 (l.dropWhile k2)=ja8 l:=by rw[←jlg,List.takeWhile_append_dropWhile]);(have htx:txL (l.takeWhile k2)+txL (l.dropWhile k2)=txL l:=by rw[←txL_app,List.takeWhile_append_dropWhile]);have a1:=jku (fun y ts h=>jj6 h) _ u h1;have a2:=jku (fun y ts h=>jbn y .decl ts h) _ v h2;have b1:=shG_sum (fun y ts h=>imp_sum h) _ u h1;have b2:=shG_sum (fun y ts h=>shO_sum y .decl ts h) _ v h2;rw[List.length_append,jkc,sizeN,txN];exact ⟨by simp only[Nd.kids] at a1 a2;omega,by simp only[Nd.kids] at b1 b2;omega⟩
  · cases h
theorem sh_new (w:World) (T:TypeId):ShS w.heap.size (w.alloc (.cells #[.slice none 0 0] T)) (.slice none 0 0) []:=by
  refine ⟨?_,?_,OwnT.nil _ _⟩
  · rw[World.cell?_alloc_mark];try rfl
  · rw[World.frozen?_alloc_mark];try rfl
theorem pRight {n:Nd} (hs:sizeN n≤4000000) (ht:txN n≤2000000) (W:World) (v:Value) (hv:NdV W (fun _=>True) v n) :
    Calls Tryz.prog 16 #[v] W fun e' w'=>e'=.returned (.bool (jjv n))∧Below W.heap.size W w':=by
  have hall:=fun y (hy:y∈jca n)=>all_c _ y (Nat.le_refl _) (fun z hz=>Nat.le_trans (tx_mem n z (jky n y z hy hz)) (by omega));have hmt:=fun ts (h:modO n=some ts)=>mod_toks h;have hro:rightM n=okO (modO n):=(modO_is n).symm;have hdy:(jhd 12 n).map Nd.at_=jf1 12 n:=deepY_at 12 n;have hdn:=deep_none 12 n;have HOL:=jj (fun (W':World) (h:NdV W' (fun _=>True) v n)=>qonlevel 12 n W' _ v (by decide) h)
  cases hv with
  | mk k a e x B m d vs l hvs hlen hr =>
  have hT:NdS W (fun _=>True) B m d l:=⟨vs,hvs,hlen,hr⟩;rw[sizeN] at hs;obtain ⟨q,hq⟩:=jx (jjv (.mk k x a e l));rw[hq];have HQ:=jj (show (okO (modO (.mk k x a e l))&&decide (jde (.mk k x a e l)≤12))=q by rw[←hq];unfold jjv;rw[hro]);have hb1:=jak (Below.refl W.heap.size W) (.cells #[.int .i64 k,.string (bs x),.int .i64 a,.int .i64 e,.slice B m d] 25);have hF:=ja6 W (.int .i64 k) (.string (bs x)) (.int .i64 a) (.int .i64 e) (.slice B m d) 25;obtain ⟨w1,hw1⟩:=jx (W.alloc (.cells #[.int .i64 k,.string (bs x),.int .i64 a,.int .i64 e,.slice B m d] 25));rw[hw1] at hb1 hF;have HC:=jj (HOL.out w1 ((hT.node k a e x).kept hb1));rw[show ((12:Nat):Int)+1=13 from rfl] at HC;have HW:=jj hw1;have HB:=jj hb1;have HF:=jj hF;have HT:=jj hT;have HMT:=jj hmt;have HTX:=jj ht;have HP:=jj (show ∀p,∀y∈l,ElC 89 p (fun n=>shO n .decl) y from fun p y hy=>hall y (by rw[jca];exact List.mem_cons_of_mem _ (jk6 hy)) p .decl _ rfl);obtain ⟨r,hr2⟩:=jx (jhd 12 (.mk k x a e l));rw[hr2] at HC hdy;obtain ⟨-,t0,t1,t2,t3,t4⟩:=hF;clear hvs hlen hr hT hq hw1 hb1 hall hmt hro HOL hr2 ht
  cases r with
  | some y =>
    have Hn:=jj (show false=q by
      rw[←HQ.out,decide_eq_false (fun h=>by rw[hdn.2 h] at hdy;cases hdy)]
      simp)
    clear hdy hdn;go_enter Tryz.func16,Tryz.ntmps16;go_upto_region 1 with fail;rw[HW.out];go_wp2_with fail;(with_reducible refine HC.out.mono ?_);rintro e2 w2 ⟨hb2,A,m2,d2,rfl⟩;have B2:=jj (bgo HB.out hb2);clear hb2 t0 t1 t2 t3 t4;go_wp2;go_ret;exact ⟨ja1 Hn.out,B2.out.trans (jak (Below.refl _ w2) _ |>.mono B2.out.size)⟩
  | none =>
    have HQ:=jj (show okO (modO (.mk k x a e l))=q by
      rw[←HQ.out,decide_eq_true (hdn.1 hdy.symm),Bool.and_true])
    clear hdy hdn;go_enter Tryz.func16,Tryz.ntmps16;go_upto_region 1 with fail;rw[HW.out];go_wp2_with fail;(with_reducible refine HC.out.mono ?_);rintro e2 w2 ⟨hb2,rfl⟩;have B2:=jj hb2;have F2:=HF.out.keep hb2;clear hb2 t0 t1 t2 t3 t4;go_upto_region 5 with fail;have hb3:=jak (Below.refl _ w2) (.cells #[.int .i64 0,.string ⟨#[]⟩,.int .i64 0,.int .i64 0,.slice none 0 0] 25);obtain ⟨w3,hw3⟩:=jx (w2.alloc (.cells #[.int .i64 0,.string ⟨#[]⟩,.int .i64 0,.int .i64 0,.slice none 0 0] 25));(have hsz:w3.heap.size=w2.heap.size+1:=by rw[←hw3];simp);rw[hw3] at hb3;have hb4:=jak (Below.refl _ w3) (.cells #[.slice none 0 0] 57);have hS4:=sh_new w3 57;obtain ⟨w4,hw4⟩:=jx (w3.alloc (.cells #[.slice none 0 0] 57));rw[hw4] at hb4 hS4;rw[hw3,hw4,←hsz];obtain ⟨p,hpp⟩:=jx (w3.heap.size);rw[hpp] at hS4 ⊢;have hb24:=bgo hb3 hb4;(have hWp:W.heap.size≤p:=by have:=HB.out.size;have:=B2.out.size;have:=hb3.size;omega);have hT4:NdS w4 (fun g=>g<p) B m d l:=HT.out.map (fun q _ hq=>((bgo (bgo HB.out B2.out) hb24).cell hq)) fun g _ hg=>Nat.lt_of_lt_of_le hg hWp;have HM:=jj (pmodule (k:=k) (a:=a) (e:=e) (x:=x) (HP.out p) hS4 hT4 (by simp only[List.length_nil];omega));have HB4:=jj (bgo (bgo HB.out B2.out) hb24);obtain ⟨-,t0,t1,t2,t3,t4⟩:=F2.keep hb24;have Hp:=jj hWp;obtain ⟨r2,hr2⟩:∃o,modO (.mk k x a e l)=o:=⟨_,rfl⟩;rw[hr2] at HM HQ HMT;clear hb3 hb4 hb24 hS4 hT4 hw3 hw4 hsz hpp hWp F2 hr2;go_wp2_with fail;(with_reducible refine HM.out.mono ?_);rintro e5 w5 ⟨u5,L5,s5,f5,h5⟩;have F5:=jj (HB4.out.trans (f5.below.mono Hp.out));have S5:=jj s5;clear s5 f5 t0 t1 t2 t3 t4
    cases r2 with
    | none =>
      obtain rfl:=h5;have Hn:=jj (show false=q from HQ.out);go_wp2;go_ret;exact ⟨ja1 Hn.out,F5.out⟩
    | some ts =>
      obtain ⟨rfl,hL5⟩:=h5;rw[List.nil_append] at hL5;subst hL5;have hm:=HMT.out L5 rfl;rw[sizeN] at hm;have HRT:=jj (prightTokens S5.out (by omega) (by have:=HTX.out;omega));have Hn:=jj (show jad L5=q from HQ.out);rw[Hn.out] at HRT;clear hm;go_wp2_with fail;(with_reducible refine HRT.out.mono ?_);rintro e6 w6 ⟨rfl,hb6⟩;have B6:=jj (bgo F5.out hb6);clear hb6;go_wp2;go_ret;exact ⟨rfl,B6.out⟩
end
section
open Go.RowKit
theorem load_four {W:World} {b:Nat} {c0 c1 c2 c3:Value} (h:Four W b c0 c1 c2 c3):(loadVar 66 ⟨b,0,none⟩).run Tryz.prog W=.ok (.agg #[c0,c1,c2,c3]) W:=by
  obtain ⟨h0,h1,h2,h3,h4⟩:=h;go_simp
theorem jh2 {fn:Func} {p:Tmp} (h:fn.results=#[.cell p 66]) (tmps:Array Value) (W:World) (b:Nat) (c0 c1 c2 c3:Value) (hp:tmps.getD p undef=.pointer (some ⟨b,0,none⟩)) (hf:Four W b c0 c1 c2 c3) :
    (results fn tmps).run Tryz.prog W=.ok (.agg #[c0,c1,c2,c3]) W:=by
  (have hp':tmps[p]?.getD undef=.pointer (some ⟨b,0,none⟩):=by simpa using hp);simp[results,h,hp',asAddr,load_four hf]
def put4 (w:World) (b:Nat) (u0 u1 u2 u3:Value):World:=(((w.setCell ⟨b,0,none⟩ u0).setCell ⟨b,1,none⟩ u1).setCell ⟨b,2,none⟩ u2).setCell ⟨b,3,none⟩ u3
theorem jh1 (w:World) (b j k:Nat) (u:Value) (h:j≠k):(w.setCell ⟨b,j,none⟩ u).cell? ⟨b,k,none⟩=w.cell? ⟨b,k,none⟩:=World.cell?_setCell_other _ _ _ _ (fun e=>h (congrArg Addr.off e))
theorem jau {w:World} {b:Nat} {c0 c1 c2 c3:Value} (h:Four w b c0 c1 c2 c3) (u0 u1 u2 u3:Value):Four (put4 w b u0 u1 u2 u3) b u0 u1 u2 u3:=by
  obtain ⟨h0,h1,h2,h3,h4⟩:=h;unfold put4;refine ⟨by simpa [World.setCell] using h0,?_,?_,?_,?_⟩
  · rw[jh1 _ _ _ _ _ (by decide),jh1 _ _ _ _ _ (by decide),jh1 _ _ _ _ _ (by decide)];exact World.cell?_setCell_same _ _ _ h1
  · rw[jh1 _ _ _ _ _ (by decide),jh1 _ _ _ _ _ (by decide)];exact World.cell?_setCell_same _ _ _ (by rw[jh1 _ _ _ _ _ (by decide)];exact h2)
  · rw[jh1 _ _ _ _ _ (by decide)];exact World.cell?_setCell_same _ _ _ (by rw[jh1 _ _ _ _ _ (by decide),jh1 _ _ _ _ _ (by decide)];exact h3)
  · exact World.cell?_setCell_same _ _ _ (by rw[jh1 _ _ _ _ _ (by decide),jh1 _ _ _ _ _ (by decide),jh1 _ _ _ _ _ (by decide)];exact h4)
theorem jal {B b:Nat} {w w':World} {u0 u1 u2 u3:Value} (h:Below B w w') (hb:B≤b):Below B w (put4 w' b u0 u1 u2 u3) :=
  (((h.setCell (by exact hb) _).setCell (by exact hb) _).setCell (by exact hb) _).setCell (by exact hb) _
def GotK (w:World) (x:Int × List UInt8 × Nat) (e:Ending) (w':World):Prop :=
  e=.returned (.agg #[.int .i64 x.1,.string (bs x.2.1),.int .i64 0,.int .i64 (x.2.2:Int)])∧Below w.heap.size w w'
theorem pwhole (k:Int) (s:ByteArray) (w:World):Calls Tryz.prog 104 #[.int .i64 k,.string s] w (GotK w (k,s.data.toList,s.size)):=by
  have HF:=jj (jet w (.int .i64 k) (.string s) (.int .i64 0) (.int .i64 (s.size:Int)) 66);have HB:=jj (jak (Below.refl w.heap.size w) (.cells #[.int .i64 k,.string s,.int .i64 0,.int .i64 (s.size:Int)] 66));have Hs:=jj (jj9 s);go_enter Tryz.func104,Tryz.ntmps104;go_wp2;exact bodyPost_ret (jh2 rfl _ _ w.heap.size _ _ _ _ rfl HF.out) rfl ⟨by rw[Hs.out],HB.out⟩
def jmm (r:List UInt8):List UInt8:=if 2≤r.length∧jim (r.take 2)=true then r.take 2 else r.take 1
theorem pmark (s:ByteArray) (h0:0<s.size) (hs:s.size≤2000000) (w:World):Calls Tryz.prog 108 #[.string s] w fun e w'=>e=.returned (.string (bs (jmm s.data.toList)))∧w=w':=by
  have HM:=fun W=>pismark (s.extract 0 2) _ rfl W;rw[jl5,jac] at HM;obtain ⟨q,hq⟩:=jx (jim (s.data.toList.take 2));rw[hq,←jl5] at HM;have HM:=jj HM;(have h1:(1:Int)≤(s.size:Int):=by omega);by_cases h2:2≤s.size
  · have h2':(2:Int)≤(s.size:Int):=by omega
    cases q with
    | true =>
      have Hy:=jj (show s.extract 0 2=bs (jmm s.data.toList) by
        unfold jmm
        rw[if_pos ⟨by rw[size_list];exact h2,hq⟩,jl5])
      clear hq;go_enter Tryz.func108,Tryz.ntmps108;go_wp2_with fail;(with_reducible refine (HM.out _).mono ?_);rintro e w1 ⟨rfl,rfl⟩;go_wp2;go_ret;exact ⟨jg6 Hy.out,rfl⟩
    | false =>
      have Hy:=jj (show s.extract 0 1=bs (jmm s.data.toList) by
        unfold jmm
        rw[if_neg (fun h=>by rw[hq] at h;cases h.2),jl5])
      clear hq;go_enter Tryz.func108,Tryz.ntmps108;go_wp2_with fail;(with_reducible refine (HM.out _).mono ?_);rintro e w1 ⟨rfl,rfl⟩;go_wp2;go_ret;exact ⟨jg6 Hy.out,rfl⟩
  · have h2':¬(2:Int)≤(s.size:Int):=by omega
    have Hy:=jj (show s.extract 0 1=bs (jmm s.data.toList) by
      unfold jmm
      rw[if_neg (fun h=>h2 (by rw[size_list] at h;exact h.1)),jl5])
    clear hq;go_enter Tryz.func108,Tryz.ntmps108;go_wp2;go_ret;exact ⟨jg6 Hy.out,rfl⟩
def jlb:List UInt8→UInt8 × Nat
  | []=>(0,0)
  | c :: r=>if c=92 then (match r with
      | []=>(0,0)
      | e :: _=>if e=34∨e=92 then (e,2) else if e=110 then (10,2) else (0,0))
    else if visB c then (c,1) else (0,0)
theorem con_bad {r:List UInt8} (h:(jlb r).2=0) (h34:¬r.head?=some 34):jf2 r=none:=by
  cases r with
  | nil=>rfl
  | cons c r =>
    have hc:¬c=34:=fun e=>h34 (by rw[e];rfl);by_cases h92:c=92
    · subst h92
      cases r with
      | nil=>exact litS_last
      | cons e x =>
        by_cases he:e=34∨e=92
        · simp[jlb,he] at h
        · by_cases hn:e=110
          · simp[jlb,hn] at h
          · exact litS_no e x he hn
    · cases hv:visB c with
      | true=>simp[jlb,h92,hv] at h
      | false=>exact litS_bad c r hc h92 hv
theorem con_good {r:List UInt8} (h:¬(jlb r).2=0) (h34:¬r.head?=some 34) :
    jf2 r=(jf2 (r.drop (jlb r).2)).map (fun x=>((jlb r).1 :: x.1,x.2+(jlb r).2))∧1≤(jlb r).2∧(jlb r).2≤r.length:=by
  cases r with
  | nil=>exact absurd rfl h
  | cons c r =>
    have hc:¬c=34:=fun e=>h34 (by rw[e];rfl);by_cases h92:c=92
    · subst h92
      cases r with
      | nil=>exact absurd rfl h
      | cons e x =>
        by_cases he:e=34∨e=92
        · (have:jlb (92 :: e :: x)=(e,2):=by simp[jlb,he]);rw[this];exact ⟨jnn e x he,Nat.le_succ 1,by simp⟩
        · by_cases hn:e=110
          · subst hn;(have:jlb (92 :: 110 :: x)=(10,2):=by simp[jlb]);rw[this];exact ⟨litS_feed x,by decide,by simp⟩
          · (have:jlb (92 :: e :: x)=(0,0):=by simp[jlb,he,hn]);rw[this] at h;exact absurd rfl h
    · cases hv:visB c with
      | true =>
        (have:jlb (c :: r)=(c,1):=by simp[jlb,h92,hv]);rw[this];exact ⟨jmn c r hc h92 hv,Nat.le_refl 1,by simp⟩
      | false =>
        (have:jlb (c :: r)=(0,0):=by simp[jlb,h92,hv]);rw[this] at h;exact absurd rfl h
theorem pre2 (a b:UInt8) (l:List UInt8):Lib.hasPrefix l [a,b]=match l with | x :: y :: _=>decide (x=a)&&decide (y=b) | _=>false:=by
  unfold Lib.hasPrefix
  match l with
  | []=>rfl
  | [x]=>simp[List.isPrefixOf]
  | x :: y :: r =>
    simp only[List.isPrefixOf,Bool.and_true];rw[Bool.eq_iff_iff];simp only[Bool.and_eq_true,beq_iff_eq,decide_eq_true_eq];exact ⟨fun h=>⟨h.1.symm,h.2.symm⟩,fun h=>⟨h.1.symm,h.2.symm⟩⟩
theorem con_cases (c:UInt8) (r:List UInt8):jlb (c :: r)=if Lib.hasPrefix (c :: r) [92,34]=true then (34,2) else if Lib.hasPrefix (c :: r) [92,92]=true then (92,2) else if Lib.hasPrefix (c :: r) [92,110]=true then (10,2)
    else if ¬c=92∧visB c=true then (c,1) else (0,0):=by
  rw[pre2,pre2,pre2];by_cases h92:c=92
  · subst h92
    cases r with
    | nil=>simp[jlb]
    | cons e x =>
      by_cases h1:e=34
      · simp[jlb,h1]
      · by_cases h2:e=92
        · simp[jlb,h2]
        · by_cases h3:e=110
          · simp[jlb,h3]
          · simp[jlb,h1,h2,h3]
  · cases r with
    | nil=>simp[jlb,h92]
    | cons e x=>simp[jlb,h92]
theorem pcontentS (s:ByteArray) (h0:0<s.size) (z:UInt8 × Nat) (hz:jlb s.data.toList=z) (w:World) :
    Calls Tryz.prog 160 #[.string s] w fun e w'=>e=.returned (.tuple #[.int .u8 (z.1.toNat:Int),.int .i64 (z.2:Int)])∧w=w':=by
  have H1:=fun W=>Tryz.strings_HasPrefix s ⟨#[92,34]⟩ W;have H2:=fun W=>Tryz.strings_HasPrefix s ⟨#[92,92]⟩ W;have H3:=fun W=>Tryz.strings_HasPrefix s ⟨#[92,110]⟩ W;have hh:=jl3 h0;rw[hh,con_cases] at hz;rw[show (⟨#[92,34]⟩:ByteArray).data.toList=[92,34] from rfl,hh] at H1;rw[show (⟨#[92,92]⟩:ByteArray).data.toList=[92,92] from rfl,hh] at H2;rw[show (⟨#[92,110]⟩:ByteArray).data.toList=[92,110] from rfl,hh] at H3;obtain ⟨b1,e1⟩:∃b,Lib.hasPrefix (s[0] :: s.data.toList.drop 1) [92,34]=b:=⟨_,rfl⟩;obtain ⟨b2,e2⟩:∃b,Lib.hasPrefix (s[0] :: s.data.toList.drop 1) [92,92]=b:=⟨_,rfl⟩;obtain ⟨b3,e3⟩:∃b,Lib.hasPrefix (s[0] :: s.data.toList.drop 1) [92,110]=b:=⟨_,rfl⟩;rw[e1] at H1 hz;rw[e2] at H2 hz;rw[e3] at H3 hz;have H1:=jj H1;have H2:=jj H2;have H3:=jj H3;have h92:(((s[0]).toNat:Int)==92)=decide (s[0]=92):=je9 (n:=92) (by decide);have HV:=jj (fun W=>pvisible s[0] W);clear hh e1 e2 e3
  cases b1 with
  | true =>
    have Hy:=jj (show (34,2)=z from hz);clear hz h92;go_enter Tryz.func160,Tryz.ntmps160;go_wp2_with fail;(with_reducible refine (H1.out _).mono ?_);rintro en w1 ⟨rfl,rfl⟩;go_wp2
    go_ret2
    exact ⟨by rw[←Hy.out];rfl,rfl⟩
  | false =>
    cases b2 with
    | true =>
      have Hy:=jj (show (92,2)=z from hz);clear hz h92;go_enter Tryz.func160,Tryz.ntmps160;go_wp2_with fail;(with_reducible refine (H1.out _).mono ?_);rintro en w1 ⟨rfl,rfl⟩;go_wp2_with fail;(with_reducible refine (H2.out _).mono ?_);rintro en w1 ⟨rfl,rfl⟩;go_wp2
      go_ret2
      exact ⟨by rw[←Hy.out];rfl,rfl⟩
    | false =>
      cases b3 with
      | true =>
        have Hy:=jj (show (10,2)=z from hz);clear hz h92;go_enter Tryz.func160,Tryz.ntmps160;go_wp2_with fail;(with_reducible refine (H1.out _).mono ?_);rintro en w1 ⟨rfl,rfl⟩;go_wp2_with fail;(with_reducible refine (H2.out _).mono ?_);rintro en w1 ⟨rfl,rfl⟩;go_wp2_with fail;(with_reducible refine (H3.out _).mono ?_);rintro en w1 ⟨rfl,rfl⟩;go_wp2
        go_ret2
        exact ⟨by rw[←Hy.out];rfl,rfl⟩
      | false =>
        have hz:(if ¬s[0]=92∧visB s[0]=true then (s[0],1) else (0,0))=z:=hz;by_cases hc:s[0]=92
        · rw[decide_eq_true hc] at h92;(have h92':(((s[0]).toNat:Int) != 92)=false:=by unfold bne;rw[h92];rfl);have Hy:=jj (show (0,0)=z by rw[←hz,if_neg (fun h=>h.1 hc)]);clear hz hc;go_enter Tryz.func160,Tryz.ntmps160;go_wp2_with fail;(with_reducible refine (H1.out _).mono ?_);rintro en w1 ⟨rfl,rfl⟩;go_wp2_with fail;(with_reducible refine (H2.out _).mono ?_);rintro en w1 ⟨rfl,rfl⟩;go_wp2_with fail;(with_reducible refine (H3.out _).mono ?_);rintro en w1 ⟨rfl,rfl⟩;go_wp2
          go_ret2
          exact ⟨by rw[←Hy.out];rfl,rfl⟩
        · rw[decide_eq_false hc] at h92;(have h92':(((s[0]).toNat:Int) != 92)=true:=by unfold bne;rw[h92];rfl);obtain ⟨v,hv⟩:=jx (visB s[0]);rw[hv] at HV hz
          cases v with
          | true =>
            have Hy:=jj (show (s[0],1)=z by rw[←hz,if_pos ⟨hc,rfl⟩]);clear hz hc hv;go_enter Tryz.func160,Tryz.ntmps160;go_wp2_with fail;(with_reducible refine (H1.out _).mono ?_);rintro en w1 ⟨rfl,rfl⟩;go_wp2_with fail;(with_reducible refine (H2.out _).mono ?_);rintro en w1 ⟨rfl,rfl⟩;go_wp2_with fail;(with_reducible refine (H3.out _).mono ?_);rintro en w1 ⟨rfl,rfl⟩;go_wp2_with fail;(with_reducible refine (HV.out _).mono ?_);rintro en w1 ⟨rfl,rfl⟩;go_wp2
            go_ret2
            exact ⟨by rw[←Hy.out];rfl,rfl⟩
          | false =>
            have Hy:=jj (show (0,0)=z by rw[←hz,if_neg (fun h=>by cases h.2)]);clear hz hc hv;go_enter Tryz.func160,Tryz.ntmps160;go_wp2_with fail;(with_reducible refine (H1.out _).mono ?_);rintro en w1 ⟨rfl,rfl⟩;go_wp2_with fail;(with_reducible refine (H2.out _).mono ?_);rintro en w1 ⟨rfl,rfl⟩;go_wp2_with fail;(with_reducible refine (H3.out _).mono ?_);rintro en w1 ⟨rfl,rfl⟩;go_wp2_with fail;(with_reducible refine (HV.out _).mono ?_);rintro en w1 ⟨rfl,rfl⟩;go_wp2
            go_ret2
            exact ⟨by rw[←Hy.out];rfl,rfl⟩
end
end Go.Proofs.YtonoklmobocikaaGreatDoor
