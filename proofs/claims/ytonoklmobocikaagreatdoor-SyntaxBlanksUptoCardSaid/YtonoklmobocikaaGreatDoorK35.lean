/- Lemmas. -/
import Derived.Test.YtonoklmobocikaaGreatDoorK30
import Derived.Test.YtonoklmobocikaaGreatDoorK34
set_option linter.unusedVariables false
set_option linter.unusedSimpArgs false
set_option maxRecDepth 20000
set_option maxHeartbeats 6400000
namespace Go.Proofs.YtonoklmobocikaaGreatDoor
section
open Go.RowKit
theorem Four.set_other {w:World} {b b1:Nat} {c0 c1 c2 c3:Value} (h:Four w b c0 c1 c2 c3) (hne:b≠b1) (o:Nat) (u:Value):Four (w.setCell ⟨b1,o,none⟩ u) b c0 c1 c2 c3:=by
  obtain ⟨h0,h1,h2,h3,h4⟩:=h;have key:∀j:Nat,(w.setCell ⟨b1,o,none⟩ u).cell? ⟨b,j,none⟩=w.cell? ⟨b,j,none⟩:=fun j=>World.cell?_setCell_other _ _ _ _ (fun e=>hne (congrArg Addr.block e).symm);exact ⟨by simpa [World.setCell] using h0,(key 0).trans h1,(key 1).trans h2,(key 2).trans h3,(key 3).trans h4⟩
theorem Below.drew' (w:World) (B:Nat):Below B w w.drew:=⟨rfl,rfl,rfl,Nat.le_refl _,fun _ _=>rfl⟩
theorem pre_metaS (r1:List UInt8):jcy true (36 :: r1)=metaS r1:=by
  unfold metaS;by_cases h:r1.headD 0=36
  · rw[if_pos h]
    cases r1 with
    | nil=>exact absurd h (by decide)
    | cons y z =>
      have hy:y=36:=h;subst hy;rw[jg9];try rfl
  · rw[if_neg h,jg8 r1 h]
theorem pre_litK (pat:Bool) (r1:List UInt8):jcy pat (34 :: r1)=litK r1:=by rw[jeq];try rfl
theorem word_fault {pat:Bool} {c:UInt8} {r1:List UInt8} (hl:ltB c=true):jgj pat (c :: r1)=if 24<(jbl (c :: r1)).length then 4 else 0:=by
  unfold jgj;rw[jdr (r:=c :: r1) hl];have e:jbl (c :: r1)=c :: jbl r1:=jm4 c r1 (lt_wd hl);have hall:(jbl (c :: r1)).all wdB=true:=tw_all _;rw[e] at hall ⊢
  cases hk:jjm (c :: jbl r1) with
  | true =>
    have h24:=(jlv _ (mem_kw hk)).2.2.2;rw[if_pos rfl,if_neg (by omega)];show jcd 2 (c :: jbl r1)=0;exact jgr (by rw[right_kw];exact hk)
  | false =>
    rw[if_neg (by decide)];show jcd 1 (c :: jbl r1)=_;unfold jcd;rw[form1,word_name hall,hl,hk,if_neg (by decide)];try rfl
theorem mark_err {pat:Bool} {c:UInt8} {r1:List UInt8} (h1:dgB c=false) (h2:ltB c=false) (h3:¬c=34) (h4:¬(pat=true∧c=36)) :
    (2≤(c :: r1).length∧jim ((c :: r1).take 2)=true→jcy pat (c :: r1)=(5,(c :: r1).take 2,2)∧jgj pat (c :: r1)=0) ∧
    (¬(2≤(c :: r1).length∧jim ((c :: r1).take 2)=true)→jcy pat (c :: r1)=(5,[c],1)∧jgj pat (c :: r1)=if jim [c]=true then 0 else 11):=by
  have hp:=jds (pat:=pat) (r:=r1) h1 h2 h3 h4;refine ⟨fun h=>?_,fun h=>?_⟩
  · rw[if_pos h] at hp;refine ⟨hp,?_⟩;unfold jgj;rw[hp];exact jgr (by rw[jmf];exact h.2)
  · rw[if_neg h] at hp;have hp:jcy pat (c :: r1)=(5,[c],1):=hp;refine ⟨hp,?_⟩;unfold jgj;rw[hp];show jcd 5 [c]=_
    cases hm:jim [c] with
    | true=>exact jgr (by rw[jmf];exact hm)
    | false=>unfold jcd;rw[form5,hm];try rfl
end
section
open Go.RowKit
set_option maxRecDepth 100000 in
set_option maxHeartbeats 12800000 in
theorem rtoken_word (s:ByteArray) (k:Nat) (pat:Bool) (hk:k<s.size) (hs:s.size≤2000000) (hl:ltB s[k]=true) (w:World) :
    Calls Tryz.prog 95 #[.string s,.int .i64 (k:Int),.bool pat] w (GotE w k (jgj pat (s.data.toList.drop k)) (jcy pat (s.data.toList.drop k))):=by
  obtain ⟨W0,hW0,hF0,hFr0,hb0,hsz0⟩:=jfn w;have HW0:=jj hW0;have HF0:=jj hF0;have HR0:=jj hFr0;have HB0:=jj hb0;have hF0lt:=hF0.1;clear hW0 hF0 hFr0 hb0 hsz0;have hdc:=jcp hk;(have hki:(k:Int)<(s.size:Int):=by omega);obtain ⟨c,hc⟩:=jx (s[k]);rw[hc] at hl;obtain ⟨r,hr⟩:=jx (s.data.toList.drop k);obtain ⟨r1,hr1⟩:=jx (s.data.toList.drop (k+1));rw[hr,hc,hr1] at hdc;rw[hr];have HL:=jj (fun W=>jjt c W);have HD:=jj (fun W=>jmv c W);obtain ⟨x,hx⟩:=jx (jcy pat r);obtain ⟨q,hq⟩:=jx (jgj pat r);rw[hx,hq];have Hr:=jj hr;have Hr1:=jj hr1;have Hdc:=jj hdc;have q34:((c.toNat:Int)==34)=decide (c=34):=je9 (n:=34) (by decide);have q36:((c.toNat:Int)==36)=decide (c=36):=je9 (n:=36) (by decide);rw[hdc,word_fault hl,←hdc] at hq;(have hxw:jcy pat r=(if jjm (jbl r) then 2 else 1,jbl r,(jbl r).length):=by rw[hdc];exact jdr (r:=c :: r1) hl);obtain ⟨t,ht⟩:=jx (jbl r);rw[ht] at hxw hq;obtain ⟨E,hE⟩:=jx (k+t.length);have HWd:=jj (fun W=>rword s k (by omega) hs E (by rw[hr,ht];exact hE) W)
  have htl:t.length≤s.size - k:=by
    have:=jgi (p:=wdB) r;rw[←hr,List.length_drop,size_list,hr] at this;rw[←ht];exact this
  (have hEs:(E:Int)≤(s.size:Int):=by omega);(have hEn:E≤s.size:=by omega);(have hkE:(k:Int)≤(E:Int):=by omega);(have hkEn:k≤E:=by omega);obtain ⟨T,hT⟩:=jx (s.extract k E)
  have hTb:T=bs t:=by
    have:=jks (p:=wdB) r;rw[show r.takeWhile wdB=t from ht] at this;rw[←hT,←hE,ext_bs,hr,this]
  (have hTs:T.size=t.length:=by rw[hTb,jbs]);(have hTs2:T.size≤2000000:=by omega);have HK:=jj (fun W=>jll T _ rfl W);rw[show T.data.toList=t by rw[hTb,jac]] at HK;obtain ⟨kw,hkw⟩:=jx (jjm t);rw[hkw] at HK hxw;have hEx:(E:Int)=((k+t.length:Nat):Int):=by omega
  have Hfin:=jj (show (if kw=true then (2:Int) else 1)=x.1∧T=bs x.2.1∧(E:Int)=((k+x.2.2:Nat):Int) by
    rw[←hx,hxw]
    exact ⟨rfl,hTb,hEx⟩)
  have Hqe:=jj (show q=if 24<T.size then 4 else 0 by rw[hTs];exact hq.symm);rw[hl] at HL;obtain ⟨B1,B2,B3,B4⟩:=meta_boxes w W0 HF0.out HR0.out HB0.out (.int .i64 1) (.string T) (.int .i64 (k:Int)) (.int .i64 (E:Int));have BT:=jj (B1.keep (Below.drew' _ _));have BF:=jj (B2.keep (Below.drew' _ _));have BR:=jj (B3.at_ (Below.drew' _ _) B2.1);have BB:=jj (B4.trans (Below.drew' _ _));have hfr:=freeF_new W0 (.int .i64 1) (.string T) (.int .i64 (k:Int)) (.int .i64 (E:Int)) 66;have BG:=jj (hfr.at_ (Below.drew' _ _) B1.1);clear hx hq hxw ht hE htl hTb hTs hkw hEx B1 B2 B3 B4 hfr hdc hr hr1 q34 q36;go_enter Tryz.func95,Tryz.ntmps95;go_upto_region 1 with (fail);rw[HW0.out];clear HW0;go_wp2_with fail;(with_reducible refine (HL.out _).mono ?_);rintro e w3 ⟨rfl,rfl⟩;go_wp2_with fail
  go_region_with (go_at_call 150;refine (HWd.out _).mono ?_;rintro e w3 ⟨rfl,rfl⟩)
  all_goals
    generalize (W0.alloc (.cells #[.int .i64 1,.string T,.int .i64 (k:Int),.int .i64 (E:Int)] 66)).drew=W1 at BT BF BR BB BG ⊢;obtain ⟨-,t0,t1,t2,t3⟩:=BT.out;go_wp2_with fail;(with_reducible refine (HK.out _).mono ?_);rintro e w5 ⟨rfl,hb5⟩;have HF5:=jj (BF.out.keep hb5);have HT5:=BT.out.keep hb5;have HR5:=jj (BR.out.at_ hb5 BF.out.1);have HG5:=BG.out.at_ hb5 BT.out.1;have HB5:=jj (bgo BB.out hb5);obtain ⟨⟨-,f0,f1,f2,f3⟩,g0,g1,g2,g3⟩:=And.intro HF5.out HR5.out;obtain ⟨⟨-,y0,y1,y2,y3⟩,z0,z1,z2,z3⟩:=And.intro HT5 HG5;(have hneb:w.heap.size≠W0.heap.size:=by omega);clear hb5 t0 t1 t2 t3 HT5 HG5
    cases kw with
    | true =>
      have hF6:=jj (HF5.out.set_other hneb 0 (.int .i64 2));by_cases h24:24<T.size
      · have Hq2:=jj (show q=4 by rw[Hqe.out,if_pos h24]);(have hg:(24:Int)<(T.size:Int):=by omega);have hg2:(T.size:Int) > 24:=hg;clear h24;go_wp2;refine bodyPost_ret (jbq rfl _ _ w.heap.size _ _ _ _ _ rfl rfl (jau hF6.out _ _ _ _)) rfl ⟨_,_,_,_,by rw[Hq2.out];rfl,fun h=>?_,jal (HB5.out.setCell (by show w.heap.size≤W0.heap.size;omega) _) (Nat.le_refl _)⟩;rw[Hq2.out] at h;exact absurd h (by decide)
      · have Hq2:=jj (show q=0 by rw[Hqe.out,if_neg h24]);(have hg:¬(24:Int)<(T.size:Int):=by omega);have hg2:¬(T.size:Int) > 24:=hg;clear h24;go_wp2;exact bodyPost_ret (jbq rfl _ _ w.heap.size _ _ _ _ _ rfl rfl (jau hF6.out _ _ _ _)) rfl ⟨_,_,_,_,by rw[Hq2.out];rfl,fun _=>⟨Hfin.out.1,Hfin.out.2.1,rfl,Hfin.out.2.2⟩,jal (HB5.out.setCell (by show w.heap.size≤W0.heap.size;omega) _) (Nat.le_refl _)⟩
    | false =>
      by_cases h24:24<T.size
      · have Hq2:=jj (show q=4 by rw[Hqe.out,if_pos h24]);(have hg:(24:Int)<(T.size:Int):=by omega);have hg2:(T.size:Int) > 24:=hg;clear h24;go_wp2;refine bodyPost_ret (jbq rfl _ _ w.heap.size _ _ _ _ _ rfl rfl (jau HF5.out _ _ _ _)) rfl ⟨_,_,_,_,by rw[Hq2.out];rfl,fun h=>?_,jal HB5.out (Nat.le_refl _)⟩;rw[Hq2.out] at h;exact absurd h (by decide)
      · have Hq2:=jj (show q=0 by rw[Hqe.out,if_neg h24]);(have hg:¬(24:Int)<(T.size:Int):=by omega);have hg2:¬(T.size:Int) > 24:=hg;clear h24;go_wp2;exact bodyPost_ret (jbq rfl _ _ w.heap.size _ _ _ _ _ rfl rfl (jau HF5.out _ _ _ _)) rfl ⟨_,_,_,_,by rw[Hq2.out];rfl,fun _=>⟨Hfin.out.1,Hfin.out.2.1,rfl,Hfin.out.2.2⟩,jal HB5.out (Nat.le_refl _)⟩
end
section
open Go.RowKit
set_option maxRecDepth 100000 in
set_option maxHeartbeats 12800000 in
theorem rtoken_num (s:ByteArray) (k:Nat) (pat:Bool) (hk:k<s.size) (hs:s.size≤2000000) (hl:ltB s[k]=false) (hd:dgB s[k]=true) (w:World) :
    Calls Tryz.prog 95 #[.string s,.int .i64 (k:Int),.bool pat] w (GotE w k (jgj pat (s.data.toList.drop k)) (jcy pat (s.data.toList.drop k))):=by
  obtain ⟨W0,hW0,hF0,hFr0,hb0,hsz0⟩:=jfn w;have HW0:=jj hW0;have HF0:=jj hF0;have HR0:=jj hFr0;have HB0:=jj hb0;have hF0lt:=hF0.1;clear hW0 hF0 hFr0 hb0 hsz0;have hdc:=jcp hk;(have hki:(k:Int)<(s.size:Int):=by omega);obtain ⟨c,hc⟩:=jx (s[k]);rw[hc] at hl hd;obtain ⟨r,hr⟩:=jx (s.data.toList.drop k);obtain ⟨r1,hr1⟩:=jx (s.data.toList.drop (k+1));rw[hr,hc,hr1] at hdc;rw[hr];have HL:=jj (fun W=>jjt c W);have HD:=jj (fun W=>jmv c W);obtain ⟨x,hx⟩:=jx (jcy pat r);obtain ⟨q,hq⟩:=jx (jgj pat r);rw[hx,hq];have Hr:=jj hr;have Hr1:=jj hr1;have Hdc:=jj hdc;have q34:((c.toNat:Int)==34)=decide (c=34):=je9 (n:=34) (by decide);have q36:((c.toNat:Int)==36)=decide (c=36):=je9 (n:=36) (by decide);have hl0:ltB c=false:=hl;rw[hl0] at HL;(have hxw:jcy pat r=(3,jho r,(jho r).length):=by rw[hdc];exact jf9 (r:=c :: r1) hd);have HC:=jj (fun W=>rnumber s k hk hs (by rw[hc];exact hd) W);(have hqe:jcd 3 (jho r)=q:=by rw[←hq];unfold jgj;rw[hxw]);rw[hr,hqe,←hxw,hx] at HC;rw[hd] at HD;clear hx hq hxw hqe hdc hr hr1 q34 q36 hl hl0 hd;go_enter Tryz.func95,Tryz.ntmps95;go_upto_region 1 with (fail);rw[HW0.out];clear HW0;go_wp2_with fail;(with_reducible refine (HL.out _).mono ?_);rintro e w3 ⟨rfl,rfl⟩;go_wp2_with fail;(with_reducible refine (HD.out _).mono ?_);rintro e w3 ⟨rfl,rfl⟩;go_wp2_with fail;(with_reducible refine (HC.out _).mono ?_);rintro e w4 ⟨K,T,a,E,rfl,hfin,hb4⟩;have Hfin:=jj hfin;have HF4:=jj (HF0.out.keep hb4);have HR4:=jj (HR0.out.at_ hb4 HF0.out.1);have HB4:=jj (HB0.out.trans (hb4.mono HB0.out.size));obtain ⟨⟨-,f0,f1,f2,f3⟩,g0,g1,g2,g3⟩:=And.intro HF4.out HR4.out;clear hfin hb4;go_wp2;exact bodyPost_ret (jbq rfl _ _ w.heap.size _ _ _ _ _ rfl rfl (jau HF4.out _ _ _ _)) rfl ⟨_,_,_,_,rfl,Hfin.out,jal HB4.out (Nat.le_refl _)⟩
set_option maxRecDepth 100000 in
set_option maxHeartbeats 12800000 in
theorem rtoken_lit (s:ByteArray) (k:Nat) (pat:Bool) (hk:k<s.size) (hs:s.size≤2000000) (hl:ltB s[k]=false) (hd:dgB s[k]=false) (h34:s[k]=34) (w:World) :
    Calls Tryz.prog 95 #[.string s,.int .i64 (k:Int),.bool pat] w (GotE w k (jgj pat (s.data.toList.drop k)) (jcy pat (s.data.toList.drop k))):=by
  obtain ⟨W0,hW0,hF0,hFr0,hb0,hsz0⟩:=jfn w;have HW0:=jj hW0;have HF0:=jj hF0;have HR0:=jj hFr0;have HB0:=jj hb0;have hF0lt:=hF0.1;clear hW0 hF0 hFr0 hb0 hsz0;have hdc:=jcp hk;(have hki:(k:Int)<(s.size:Int):=by omega);obtain ⟨c,hc⟩:=jx (s[k]);rw[hc] at hl hd h34;obtain ⟨r,hr⟩:=jx (s.data.toList.drop k);obtain ⟨r1,hr1⟩:=jx (s.data.toList.drop (k+1));rw[hr,hc,hr1] at hdc;rw[hr];have HL:=jj (fun W=>jjt c W);have HD:=jj (fun W=>jmv c W);obtain ⟨x,hx⟩:=jx (jcy pat r);obtain ⟨q,hq⟩:=jx (jgj pat r);rw[hx,hq];have Hr:=jj hr;have Hr1:=jj hr1;have Hdc:=jj hdc;have q34:((c.toNat:Int)==34)=decide (c=34):=je9 (n:=34) (by decide);have q36:((c.toNat:Int)==36)=decide (c=36):=je9 (n:=36) (by decide);have hl0:ltB c=false:=hl;rw[hl0] at HL;have hd0:dgB c=false:=hd;rw[hd0] at HD;(have hxw:jcy pat r=litK r1:=by rw[hdc,h34];exact pre_litK pat r1);have HC:=jj (fun W=>rliteral s k hk hs W);(have hqe:jcd (litK r1).1 (litK r1).2.1=q:=by rw[←hq];unfold jgj;rw[hxw]);rw[hr1,hqe,←hxw,hx] at HC;rw[decide_eq_true h34] at q34;clear hx hq hxw hqe hdc hr hr1 q36 hl hl0 hd hd0 h34;go_enter Tryz.func95,Tryz.ntmps95;go_upto_region 1 with (fail);rw[HW0.out];clear HW0;go_wp2_with fail;(with_reducible refine (HL.out _).mono ?_);rintro e w3 ⟨rfl,rfl⟩;go_wp2_with fail;(with_reducible refine (HD.out _).mono ?_);rintro e w3 ⟨rfl,rfl⟩;go_wp2_with fail;(with_reducible refine (HC.out _).mono ?_);rintro e w4 ⟨K,T,a,E,rfl,hfin,hb4⟩;have Hfin:=jj hfin;have HF4:=jj (HF0.out.keep hb4);have HR4:=jj (HR0.out.at_ hb4 HF0.out.1);have HB4:=jj (HB0.out.trans (hb4.mono HB0.out.size));obtain ⟨⟨-,f0,f1,f2,f3⟩,g0,g1,g2,g3⟩:=And.intro HF4.out HR4.out;clear hfin hb4;go_wp2;exact bodyPost_ret (jbq rfl _ _ w.heap.size _ _ _ _ _ rfl rfl (jau HF4.out _ _ _ _)) rfl ⟨_,_,_,_,rfl,Hfin.out,jal HB4.out (Nat.le_refl _)⟩
end
section
open Go.RowKit
set_option maxRecDepth 100000 in
set_option maxHeartbeats 12800000 in
theorem rtoken_meta (s:ByteArray) (k:Nat) (pat:Bool) (hk:k<s.size) (hs:s.size≤2000000) (hl:ltB s[k]=false) (hd:dgB s[k]=false) (h34:¬s[k]=34) (h36:pat=true∧s[k]=36) (w:World) :
    Calls Tryz.prog 95 #[.string s,.int .i64 (k:Int),.bool pat] w (GotE w k (jgj pat (s.data.toList.drop k)) (jcy pat (s.data.toList.drop k))):=by
  obtain ⟨W0,hW0,hF0,hFr0,hb0,hsz0⟩:=jfn w;have HW0:=jj hW0;have HF0:=jj hF0;have HR0:=jj hFr0;have HB0:=jj hb0;have hF0lt:=hF0.1;clear hW0 hF0 hFr0 hb0 hsz0;have hdc:=jcp hk;(have hki:(k:Int)<(s.size:Int):=by omega);obtain ⟨c,hc⟩:=jx (s[k]);rw[hc] at hl hd h34 h36;obtain ⟨r,hr⟩:=jx (s.data.toList.drop k);obtain ⟨r1,hr1⟩:=jx (s.data.toList.drop (k+1));rw[hr,hc,hr1] at hdc;rw[hr];have HL:=jj (fun W=>jjt c W);have HD:=jj (fun W=>jmv c W);obtain ⟨x,hx⟩:=jx (jcy pat r);obtain ⟨q,hq⟩:=jx (jgj pat r);rw[hx,hq];have Hr:=jj hr;have Hr1:=jj hr1;have Hdc:=jj hdc;have q34:((c.toNat:Int)==34)=decide (c=34):=je9 (n:=34) (by decide);have q36:((c.toNat:Int)==36)=decide (c=36):=je9 (n:=36) (by decide);have hl0:ltB c=false:=hl;rw[hl0] at HL;have hd0:dgB c=false:=hd;rw[hd0] at HD;rw[decide_eq_false h34] at q34;obtain ⟨rfl,h36⟩:=h36;(have hxw:jcy true r=metaS r1:=by rw[hdc,h36];exact pre_metaS r1);have HC:=jj (fun W=>rmeta s k hk hs W);(have hqe:jcd (metaS r1).1 (metaS r1).2.1=q:=by rw[←hq];unfold jgj;rw[hxw]);rw[hr1,hqe,←hxw,hx] at HC;rw[decide_eq_true h36] at q36;clear hx hq hxw hqe hdc hr hr1 hl hl0 hd hd0 h34 h36;go_enter Tryz.func95,Tryz.ntmps95;go_upto_region 1 with (fail);rw[HW0.out];clear HW0;go_wp2_with fail;(with_reducible refine (HL.out _).mono ?_);rintro e w3 ⟨rfl,rfl⟩;go_wp2_with fail;(with_reducible refine (HD.out _).mono ?_);rintro e w3 ⟨rfl,rfl⟩;go_wp2_with fail;(with_reducible refine (HC.out _).mono ?_);rintro e w4 ⟨K,T,a,E,rfl,hfin,hb4⟩;have Hfin:=jj hfin;have HF4:=jj (HF0.out.keep hb4);have HR4:=jj (HR0.out.at_ hb4 HF0.out.1);have HB4:=jj (HB0.out.trans (hb4.mono HB0.out.size));obtain ⟨⟨-,f0,f1,f2,f3⟩,g0,g1,g2,g3⟩:=And.intro HF4.out HR4.out;clear hfin hb4;go_wp2;exact bodyPost_ret (jbq rfl _ _ w.heap.size _ _ _ _ _ rfl rfl (jau HF4.out _ _ _ _)) rfl ⟨_,_,_,_,rfl,Hfin.out,jal HB4.out (Nat.le_refl _)⟩
end
section
open Go.RowKit
set_option maxRecDepth 100000 in
set_option maxHeartbeats 12800000 in
theorem rtoken_mark (s:ByteArray) (k:Nat) (pat:Bool) (hk:k<s.size) (hs:s.size≤2000000) (hl:ltB s[k]=false) (hd:dgB s[k]=false) (h34:¬s[k]=34) (h36:¬(pat=true∧s[k]=36)) (w:World) :
    Calls Tryz.prog 95 #[.string s,.int .i64 (k:Int),.bool pat] w (GotE w k (jgj pat (s.data.toList.drop k)) (jcy pat (s.data.toList.drop k))):=by
  obtain ⟨W0,hW0,hF0,hFr0,hb0,hsz0⟩:=jfn w;have HW0:=jj hW0;have HF0:=jj hF0;have HR0:=jj hFr0;have HB0:=jj hb0;have hF0lt:=hF0.1;clear hW0 hF0 hFr0 hb0 hsz0;have hdc:=jcp hk;(have hki:(k:Int)<(s.size:Int):=by omega);obtain ⟨c,hc⟩:=jx (s[k]);rw[hc] at hl hd h34 h36;obtain ⟨r,hr⟩:=jx (s.data.toList.drop k);obtain ⟨r1,hr1⟩:=jx (s.data.toList.drop (k+1));rw[hr,hc,hr1] at hdc;rw[hr];have HL:=jj (fun W=>jjt c W);have HD:=jj (fun W=>jmv c W);obtain ⟨x,hx⟩:=jx (jcy pat r);obtain ⟨q,hq⟩:=jx (jgj pat r);rw[hx,hq];have Hr:=jj hr;have Hr1:=jj hr1;have Hdc:=jj hdc;have q34:((c.toNat:Int)==34)=decide (c=34):=je9 (n:=34) (by decide);have q36:((c.toNat:Int)==36)=decide (c=36):=je9 (n:=36) (by decide);have hl0:ltB c=false:=hl;rw[hl0] at HL;have hd0:dgB c=false:=hd;rw[hd0] at HD;rw[decide_eq_false h34] at q34;(have hlen:(c :: r1).length=s.size - k:=by rw[←hdc,←hr,List.length_drop,size_list]);obtain ⟨M1,M2⟩:=mark_err (pat:=pat) (r1:=r1) hd0 hl0 h34 h36;rw[←hdc] at M1 M2 hlen;rw[hlen,hx,hq] at M1 M2;(have e2:s.extract k (k+2)=bs (r.take 2):=by rw[ext_bs,hr]);(have e1:s.extract k (k+1)=bs [c]:=by rw[ext_bs,hr,hdc];rfl);have HM2:=fun W=>rmark (s.extract k (k+2)) _ rfl W;have HM1:=fun W=>rmark (s.extract k (k+1)) _ rfl W;rw[show (s.extract k (k+2)).data.toList=r.take 2 by rw[e2,jac]] at HM2;rw[show (s.extract k (k+1)).data.toList=[c] by rw[e1,jac]] at HM1;obtain ⟨b2,hb2⟩:∃b,jim (r.take 2)=b:=⟨_,rfl⟩;obtain ⟨b1,hb1⟩:∃b,jim [c]=b:=⟨_,rfl⟩;rw[hb2] at M1 M2 HM2;rw[hb1] at M2 HM1;have HM1:=jj HM1;have HM2:=jj HM2;have M1:=jj M1;have M2:=jj M2;have E1:=jj e1;have E2:=jj e2;(have hk1:(k:Int)+1≤(s.size:Int):=by omega);clear hx hq hdc hr hr1 hl hl0 hd hd0 h34 e1 e2 hb1 hb2 hlen
  have key:∃b36:Bool,((c.toNat:Int)==36)=b36∧(b36=true→pat=false):=by
    refine ⟨decide (c=36),q36,fun h=>?_⟩
    cases pat with
    | false=>rfl
    | true=>exact absurd ⟨rfl,of_decide_eq_true h⟩ h36
  obtain ⟨b36,hb36,hbp⟩:=key;clear q36 h36;by_cases h2:2≤s.size - k
  · have hk2:(k:Int)+2≤(s.size:Int):=by omega
    cases b2 with
    | true =>
      obtain ⟨hx2,hq2⟩:=M1.out ⟨h2,rfl⟩;have Hfin:=jj (show (5:Int)=x.1∧s.extract k (k+2)=bs x.2.1∧(k:Int)+2=((k+x.2.2:Nat):Int) by rw[hx2];exact ⟨rfl,E2.out,by show (k:Int)+2=((k+2:Nat):Int);omega⟩);have Hq2:=jj hq2;clear hx2 hq2;cases b36
      · go_enter Tryz.func95,Tryz.ntmps95;go_upto_region 1 with (fail);rw[HW0.out];clear HW0;go_wp2_with fail;(with_reducible refine (HL.out _).mono ?_);rintro e w3 ⟨rfl,rfl⟩;go_wp2_with fail;(with_reducible refine (HD.out _).mono ?_);rintro e w3 ⟨rfl,rfl⟩;go_wp2_with fail;(with_reducible refine (HM2.out _).mono ?_);rintro e w5 ⟨rfl,hb5⟩;have HF5:=jj (HF0.out.keep hb5);have HR5:=jj (HR0.out.at_ hb5 HF0.out.1);have HB5:=jj (HB0.out.trans (hb5.mono HB0.out.size));clear hb5;obtain ⟨⟨-,f0,f1,f2,f3⟩,g0,g1,g2,g3⟩:=And.intro HF5.out HR5.out;go_wp2;exact bodyPost_ret (jbq rfl _ _ w.heap.size _ _ _ _ _ rfl rfl (jau HF5.out _ _ _ _)) rfl ⟨_,_,_,_,by rw[Hq2.out];rfl,fun _=>⟨Hfin.out.1,Hfin.out.2.1,rfl,Hfin.out.2.2⟩,jal HB5.out (Nat.le_refl _)⟩
      · obtain rfl:=hbp rfl;go_enter Tryz.func95,Tryz.ntmps95;go_upto_region 1 with (fail);rw[HW0.out];clear HW0;go_wp2_with fail;(with_reducible refine (HL.out _).mono ?_);rintro e w3 ⟨rfl,rfl⟩;go_wp2_with fail;(with_reducible refine (HD.out _).mono ?_);rintro e w3 ⟨rfl,rfl⟩;go_wp2_with fail;(with_reducible refine (HM2.out _).mono ?_);rintro e w5 ⟨rfl,hb5⟩;have HF5:=jj (HF0.out.keep hb5);have HR5:=jj (HR0.out.at_ hb5 HF0.out.1);have HB5:=jj (HB0.out.trans (hb5.mono HB0.out.size));clear hb5;obtain ⟨⟨-,f0,f1,f2,f3⟩,g0,g1,g2,g3⟩:=And.intro HF5.out HR5.out;go_wp2;exact bodyPost_ret (jbq rfl _ _ w.heap.size _ _ _ _ _ rfl rfl (jau HF5.out _ _ _ _)) rfl ⟨_,_,_,_,by rw[Hq2.out];rfl,fun _=>⟨Hfin.out.1,Hfin.out.2.1,rfl,Hfin.out.2.2⟩,jal HB5.out (Nat.le_refl _)⟩
    | false =>
      obtain ⟨hx2,hq2⟩:=M2.out (fun h=>by cases h.2)
      cases b1 with
      | true =>
        have Hfin:=jj (show (5:Int)=x.1∧s.extract k (k+1)=bs x.2.1∧(k:Int)+1=((k+x.2.2:Nat):Int) by rw[hx2];exact ⟨rfl,E1.out,by show (k:Int)+1=((k+1:Nat):Int);omega⟩);have Hq2:=jj (show q=0 from hq2);clear hx2 hq2;cases b36
        · go_enter Tryz.func95,Tryz.ntmps95;go_upto_region 1 with (fail);rw[HW0.out];clear HW0;go_wp2_with fail;(with_reducible refine (HL.out _).mono ?_);rintro e w3 ⟨rfl,rfl⟩;go_wp2_with fail;(with_reducible refine (HD.out _).mono ?_);rintro e w3 ⟨rfl,rfl⟩;go_wp2_with fail;(with_reducible refine (HM2.out _).mono ?_);rintro e w5 ⟨rfl,hb5⟩;have HF5:=jj (HF0.out.keep hb5);have HR5:=jj (HR0.out.at_ hb5 HF0.out.1);have HB5:=jj (HB0.out.trans (hb5.mono HB0.out.size));clear hb5;go_wp2_with fail;(with_reducible refine (HM1.out _).mono ?_);rintro e w5 ⟨rfl,hb5⟩;have HF6:=jj (HF5.out.keep hb5);have HR6:=jj (HR5.out.at_ hb5 HF5.out.1);have HB6:=jj (HB5.out.trans (hb5.mono HB5.out.size));clear hb5;have HF5:=HF6;have HR5:=HR6;have HB5:=HB6;obtain ⟨⟨-,f0,f1,f2,f3⟩,g0,g1,g2,g3⟩:=And.intro HF5.out HR5.out;go_wp2;exact bodyPost_ret (jbq rfl _ _ w.heap.size _ _ _ _ _ rfl rfl (jau HF5.out _ _ _ _)) rfl ⟨_,_,_,_,by rw[Hq2.out];rfl,fun _=>⟨Hfin.out.1,Hfin.out.2.1,rfl,Hfin.out.2.2⟩,jal HB5.out (Nat.le_refl _)⟩
        · obtain rfl:=hbp rfl;go_enter Tryz.func95,Tryz.ntmps95;go_upto_region 1 with (fail);rw[HW0.out];clear HW0;go_wp2_with fail;(with_reducible refine (HL.out _).mono ?_);rintro e w3 ⟨rfl,rfl⟩;go_wp2_with fail;(with_reducible refine (HD.out _).mono ?_);rintro e w3 ⟨rfl,rfl⟩;go_wp2_with fail;(with_reducible refine (HM2.out _).mono ?_);rintro e w5 ⟨rfl,hb5⟩;have HF5:=jj (HF0.out.keep hb5);have HR5:=jj (HR0.out.at_ hb5 HF0.out.1);have HB5:=jj (HB0.out.trans (hb5.mono HB0.out.size));clear hb5;go_wp2_with fail;(with_reducible refine (HM1.out _).mono ?_);rintro e w5 ⟨rfl,hb5⟩;have HF6:=jj (HF5.out.keep hb5);have HR6:=jj (HR5.out.at_ hb5 HF5.out.1);have HB6:=jj (HB5.out.trans (hb5.mono HB5.out.size));clear hb5;have HF5:=HF6;have HR5:=HR6;have HB5:=HB6;obtain ⟨⟨-,f0,f1,f2,f3⟩,g0,g1,g2,g3⟩:=And.intro HF5.out HR5.out;go_wp2;exact bodyPost_ret (jbq rfl _ _ w.heap.size _ _ _ _ _ rfl rfl (jau HF5.out _ _ _ _)) rfl ⟨_,_,_,_,by rw[Hq2.out];rfl,fun _=>⟨Hfin.out.1,Hfin.out.2.1,rfl,Hfin.out.2.2⟩,jal HB5.out (Nat.le_refl _)⟩
      | false =>
        have Hq2:=jj (show q=11 from hq2);clear hx2 hq2;cases b36
        · go_enter Tryz.func95,Tryz.ntmps95;go_upto_region 1 with (fail);rw[HW0.out];clear HW0;go_wp2_with fail;(with_reducible refine (HL.out _).mono ?_);rintro e w3 ⟨rfl,rfl⟩;go_wp2_with fail;(with_reducible refine (HD.out _).mono ?_);rintro e w3 ⟨rfl,rfl⟩;go_wp2_with fail;(with_reducible refine (HM2.out _).mono ?_);rintro e w5 ⟨rfl,hb5⟩;have HF5:=jj (HF0.out.keep hb5);have HR5:=jj (HR0.out.at_ hb5 HF0.out.1);have HB5:=jj (HB0.out.trans (hb5.mono HB0.out.size));clear hb5;go_wp2_with fail;(with_reducible refine (HM1.out _).mono ?_);rintro e w5 ⟨rfl,hb5⟩;have HF6:=jj (HF5.out.keep hb5);have HR6:=jj (HR5.out.at_ hb5 HF5.out.1);have HB6:=jj (HB5.out.trans (hb5.mono HB5.out.size));clear hb5;have HF5:=HF6;have HR5:=HR6;have HB5:=HB6;obtain ⟨⟨-,f0,f1,f2,f3⟩,g0,g1,g2,g3⟩:=And.intro HF5.out HR5.out;go_wp2;refine bodyPost_ret (jbq rfl _ _ w.heap.size _ _ _ _ _ rfl rfl (jau HF5.out _ _ _ _)) rfl ⟨_,_,_,_,by rw[Hq2.out];rfl,fun h=>?_,jal HB5.out (Nat.le_refl _)⟩;rw[Hq2.out] at h;exact absurd h (by decide)
        · obtain rfl:=hbp rfl;go_enter Tryz.func95,Tryz.ntmps95;go_upto_region 1 with (fail);rw[HW0.out];clear HW0;go_wp2_with fail;(with_reducible refine (HL.out _).mono ?_);rintro e w3 ⟨rfl,rfl⟩;go_wp2_with fail;(with_reducible refine (HD.out _).mono ?_);rintro e w3 ⟨rfl,rfl⟩;go_wp2_with fail;(with_reducible refine (HM2.out _).mono ?_);rintro e w5 ⟨rfl,hb5⟩;have HF5:=jj (HF0.out.keep hb5);have HR5:=jj (HR0.out.at_ hb5 HF0.out.1);have HB5:=jj (HB0.out.trans (hb5.mono HB0.out.size));clear hb5;go_wp2_with fail;(with_reducible refine (HM1.out _).mono ?_);rintro e w5 ⟨rfl,hb5⟩;have HF6:=jj (HF5.out.keep hb5);have HR6:=jj (HR5.out.at_ hb5 HF5.out.1);have HB6:=jj (HB5.out.trans (hb5.mono HB5.out.size));clear hb5;have HF5:=HF6;have HR5:=HR6;have HB5:=HB6;obtain ⟨⟨-,f0,f1,f2,f3⟩,g0,g1,g2,g3⟩:=And.intro HF5.out HR5.out;go_wp2;refine bodyPost_ret (jbq rfl _ _ w.heap.size _ _ _ _ _ rfl rfl (jau HF5.out _ _ _ _)) rfl ⟨_,_,_,_,by rw[Hq2.out];rfl,fun h=>?_,jal HB5.out (Nat.le_refl _)⟩;rw[Hq2.out] at h;exact absurd h (by decide)
  · (have hk2:¬(k:Int)+2≤(s.size:Int):=by omega);obtain ⟨hx2,hq2⟩:=M2.out (fun h=>h2 h.1)
    cases b1 with
    | true =>
      have Hfin:=jj (show (5:Int)=x.1∧s.extract k (k+1)=bs x.2.1∧(k:Int)+1=((k+x.2.2:Nat):Int) by rw[hx2];exact ⟨rfl,E1.out,by show (k:Int)+1=((k+1:Nat):Int);omega⟩);have Hq2:=jj (show q=0 from hq2);clear hx2 hq2;cases b36
      · go_enter Tryz.func95,Tryz.ntmps95;go_upto_region 1 with (fail);rw[HW0.out];clear HW0;go_wp2_with fail;(with_reducible refine (HL.out _).mono ?_);rintro e w3 ⟨rfl,rfl⟩;go_wp2_with fail;(with_reducible refine (HD.out _).mono ?_);rintro e w3 ⟨rfl,rfl⟩;go_wp2_with fail;(with_reducible refine (HM1.out _).mono ?_);rintro e w5 ⟨rfl,hb5⟩;have HF5:=jj (HF0.out.keep hb5);have HR5:=jj (HR0.out.at_ hb5 HF0.out.1);have HB5:=jj (HB0.out.trans (hb5.mono HB0.out.size));clear hb5;obtain ⟨⟨-,f0,f1,f2,f3⟩,g0,g1,g2,g3⟩:=And.intro HF5.out HR5.out;go_wp2;exact bodyPost_ret (jbq rfl _ _ w.heap.size _ _ _ _ _ rfl rfl (jau HF5.out _ _ _ _)) rfl ⟨_,_,_,_,by rw[Hq2.out];rfl,fun _=>⟨Hfin.out.1,Hfin.out.2.1,rfl,Hfin.out.2.2⟩,jal HB5.out (Nat.le_refl _)⟩
      · obtain rfl:=hbp rfl;go_enter Tryz.func95,Tryz.ntmps95;go_upto_region 1 with (fail);rw[HW0.out];clear HW0;go_wp2_with fail;(with_reducible refine (HL.out _).mono ?_);rintro e w3 ⟨rfl,rfl⟩;go_wp2_with fail;(with_reducible refine (HD.out _).mono ?_);rintro e w3 ⟨rfl,rfl⟩;go_wp2_with fail;(with_reducible refine (HM1.out _).mono ?_);rintro e w5 ⟨rfl,hb5⟩;have HF5:=jj (HF0.out.keep hb5);have HR5:=jj (HR0.out.at_ hb5 HF0.out.1);have HB5:=jj (HB0.out.trans (hb5.mono HB0.out.size));clear hb5;obtain ⟨⟨-,f0,f1,f2,f3⟩,g0,g1,g2,g3⟩:=And.intro HF5.out HR5.out;go_wp2;exact bodyPost_ret (jbq rfl _ _ w.heap.size _ _ _ _ _ rfl rfl (jau HF5.out _ _ _ _)) rfl ⟨_,_,_,_,by rw[Hq2.out];rfl,fun _=>⟨Hfin.out.1,Hfin.out.2.1,rfl,Hfin.out.2.2⟩,jal HB5.out (Nat.le_refl _)⟩
    | false =>
      have Hq2:=jj (show q=11 from hq2);clear hx2 hq2;cases b36
      · go_enter Tryz.func95,Tryz.ntmps95;go_upto_region 1 with (fail);rw[HW0.out];clear HW0;go_wp2_with fail;(with_reducible refine (HL.out _).mono ?_);rintro e w3 ⟨rfl,rfl⟩;go_wp2_with fail;(with_reducible refine (HD.out _).mono ?_);rintro e w3 ⟨rfl,rfl⟩;go_wp2_with fail;(with_reducible refine (HM1.out _).mono ?_);rintro e w5 ⟨rfl,hb5⟩;have HF5:=jj (HF0.out.keep hb5);have HR5:=jj (HR0.out.at_ hb5 HF0.out.1);have HB5:=jj (HB0.out.trans (hb5.mono HB0.out.size));clear hb5;obtain ⟨⟨-,f0,f1,f2,f3⟩,g0,g1,g2,g3⟩:=And.intro HF5.out HR5.out;go_wp2;refine bodyPost_ret (jbq rfl _ _ w.heap.size _ _ _ _ _ rfl rfl (jau HF5.out _ _ _ _)) rfl ⟨_,_,_,_,by rw[Hq2.out];rfl,fun h=>?_,jal HB5.out (Nat.le_refl _)⟩;rw[Hq2.out] at h;exact absurd h (by decide)
      · obtain rfl:=hbp rfl;go_enter Tryz.func95,Tryz.ntmps95;go_upto_region 1 with (fail);rw[HW0.out];clear HW0;go_wp2_with fail;(with_reducible refine (HL.out _).mono ?_);rintro e w3 ⟨rfl,rfl⟩;go_wp2_with fail;(with_reducible refine (HD.out _).mono ?_);rintro e w3 ⟨rfl,rfl⟩;go_wp2_with fail;(with_reducible refine (HM1.out _).mono ?_);rintro e w5 ⟨rfl,hb5⟩;have HF5:=jj (HF0.out.keep hb5);have HR5:=jj (HR0.out.at_ hb5 HF0.out.1);have HB5:=jj (HB0.out.trans (hb5.mono HB0.out.size));clear hb5;obtain ⟨⟨-,f0,f1,f2,f3⟩,g0,g1,g2,g3⟩:=And.intro HF5.out HR5.out;go_wp2;refine bodyPost_ret (jbq rfl _ _ w.heap.size _ _ _ _ _ rfl rfl (jau HF5.out _ _ _ _)) rfl ⟨_,_,_,_,by rw[Hq2.out];rfl,fun h=>?_,jal HB5.out (Nat.le_refl _)⟩;rw[Hq2.out] at h;exact absurd h (by decide)
end
section
open Go.RowKit
theorem rtoken (s:ByteArray) (k:Nat) (pat:Bool) (hk:k<s.size) (hs:s.size≤2000000) (w:World) :
    Calls Tryz.prog 95 #[.string s,.int .i64 (k:Int),.bool pat] w (GotE w k (jgj pat (s.data.toList.drop k)) (jcy pat (s.data.toList.drop k))):=by
  cases hl:ltB s[k] with
  | true=>exact rtoken_word s k pat hk hs hl w
  | false =>
    cases hd:dgB s[k] with
    | true=>exact rtoken_num s k pat hk hs hl hd w
    | false =>
      by_cases h34:s[k]=34
      · exact rtoken_lit s k pat hk hs hl hd h34 w
      · by_cases h36:pat=true∧s[k]=36
        · exact rtoken_meta s k pat hk hs hl hd h34 h36 w
        · exact rtoken_mark s k pat hk hs hl hd h34 h36 w
theorem ownT_none (w:World):OwnT (w.alloc (.cells #[] 66)) w.heap.size (.slice (some ⟨w.heap.size,0,none⟩) 0 0) []:=by
  refine ⟨rfl,Or.inr ⟨w.heap.size,0,#[],rfl,Nat.le_refl _,heap_alloc_new w _,Nat.le_refl _,Nat.zero_le _,rfl,rfl⟩⟩
set_option maxHeartbeats 12800000 in
theorem rscan (pat:Bool) (s:ByteArray) (hs:s.size≤2000000) (w:World) :
    Calls Tryz.prog 53 #[.string s,.bool pat] w (GotS w (jmg (jcx pat s.data.toList))):=by
  obtain ⟨i0,hi,hz0,hz1,hz2⟩:=info_parts infoTk;obtain ⟨P,hP⟩:=jx (jcx pat s.data.toList);rw[hP];have HP:=jj hP;obtain ⟨W0,hW0⟩:=jx (w.alloc (.cells #[] 66));have hO0:=ownT_none w;rw[hW0] at hO0;have HO0:=jj hO0;have HB0:=jj (show Below w.heap.size w W0 by rw[←hW0];exact jak (Below.refl _ w) _);have HW0:=jj hW0;obtain ⟨J,hJ⟩:=jx (s.size - (skS s.data.toList).length);have HSk:=jj (fun W=>rskip s 0 (Nat.zero_le _) hs J (by rw[List.drop_zero];exact hJ) W);have HSk:=jj (show ∀W,Calls Tryz.prog 94 #[.string s,.int .i64 0] W fun e w'=>e=.returned (.int .i64 (J:Int))∧W=w' from HSk.out);have hsx:=jle s.data.toList 0 (Nat.zero_le _);rw[List.drop_zero,size_list,hJ] at hsx;have HSx:=jj hsx;have HJ:=jj hJ;clear hP hO0 hW0 hJ hsx;go_enter Tryz.func53,Tryz.ntmps53;go_wp2_with fail;rw[HW0.out];clear HW0;(with_reducible refine (HSk.out _).mono ?_);rintro e w1 ⟨rfl,rfl⟩;go_wp2_with fail
  go_loopw [7,8] (fun u y wr=>∃(j:Nat) (l:List Tk) (k:Nat),y=.int .i64 (j:Int)∧j≤s.size∧Bare (s.data.toList.drop j)∧s.size - j<k ∧
      P=appE l (jea k pat s.size l.length (s.data.toList.drop j))∧l.length≤600∧OwnT wr w.heap.size u l∧Below w.heap.size w wr) (fun _ y _=>s.size - (intOf y).toNat)
  case atStart =>
    have h1:=HSx.out;have hj:=HJ.out;(have hl:(skS s.data.toList).length≤s.size:=by have:=jf7 s.data.toList false;rw[size_list] at this;exact this);refine ⟨J,[],s.size+1,rfl,by omega,by rw[←h1.2];exact jfr _ _,by omega,?_,by simp,HO0.out,HB0.out⟩;rw[←h1.2,←HP.out];unfold jcx;rw[size_list];show _=appE [] (jea (s.size+1) pat s.size 0 (skS s.data.toList));cases jea (s.size+1) pat s.size 0 (skS s.data.toList)<;>rfl
  case round =>
    clear HO0 HB0 HSk HSx HJ;obtain ⟨j,l,k,rfl,hj,hbare,hk,hres,hl600,hown,hb⟩:=hrel;obtain ⟨wo,hwo⟩:∃wo,wo=wr:=⟨wr,rfl⟩;subst hwo;have hszo:=hb.size;have HO:=jj hown;have HB:=jj hb;have Hres:=jj hres;obtain ⟨A0,n0,c0,rfl,hn0,hts0⟩:=hown.s;have hnc0:=hts0.1;have hcc0:=hts0.2.1;have Hn0:=jj hn0;by_cases hlt:j<s.size
    · (have hji:(j:Int)<(s.size:Int):=by omega);have HC:=jj (fun W=>rtoken s j pat hlt hs W);obtain ⟨r,hr⟩:=jx (s.data.toList.drop j);(have hrl:r.length=s.size - j:=by rw[←hr,List.length_drop,size_list]);(have hrn:r≠[]:=fun e=>by rw[e] at hrl;simp at hrl;omega);obtain ⟨hstep1,hstep2,hstep3⟩:=scan_step k pat s.size l.length r hrn (by omega);have hn:=pre_le (pat:=pat) hrn;rw[hr] at hres HC;rw[←hn0] at hstep1 hstep2 hstep3 hl600 hres;rw[hrl,show s.size - (s.size - j)=j by omega] at hstep1 hstep2 hstep3;rw[hrl] at hn;obtain ⟨x,hx⟩:=jx (jcy pat r);obtain ⟨q,hq⟩:=jx (jgj pat r);rw[hq] at hstep1 hstep2 hstep3 HC;rw[hx] at hstep3 HC hn;obtain ⟨E,hE⟩:=jx (j+x.2.2);have hEs:E≤s.size:=by omega
      have hqw:q=0→1≤x.2.2:=fun h=>by
        have:=jia hrn (by rw[hq];exact h);rw[hx] at this;exact this.1
      obtain ⟨J,hJ⟩:=jx (s.size - (skS (s.data.toList.drop E)).length);have HSk:=jj (fun W=>rskip s E hEs hs J hJ W);have hsx:=jle s.data.toList E (by rw[size_list];exact hEs);rw[size_list,hJ] at hsx;(have hdr:r.drop x.2.2=s.data.toList.drop E:=by rw[←hr,List.drop_drop,hE]);rw[hE,hdr] at hstep3;have Hres2:=jj hres;have S1:=jj hstep1;have S2:=jj hstep2;have S3:=jj hstep3;have HSx:=jj hsx;have HJ:=jj hJ;have Hqw:=jj hqw;have HE:=jj hE;clear hown hb hres hbare hn0 hts0 hr hrl hrn hstep1 hstep2 hstep3 hn hx hq hE hqw hJ hsx hdr;go_wp2_with fail;(with_reducible refine (HC.out _).mono ?_);rintro e w3 ⟨K,T,a,E2,rfl,hfin,hb3⟩;have Hfin:=jj hfin;have hsz3:=hb3.size;have HO3:=jj (HO.out.below hb3);have HB3:=jj (HB.out.trans (hb3.mono hszo));have HF3:=jj (jet w3 (.int .i64 K) (.string T) (.int .i64 a) (.int .i64 E2) 66);have hbx:=jak (Below.refl w3.heap.size w3) (.cells #[.int .i64 K,.string T,.int .i64 a,.int .i64 E2] 66);have HO4:=jj (HO3.out.below hbx);have HB4:=jj (HB3.out.trans (hbx.mono HB3.out.size));clear hfin hb3 hbx;by_cases hq0:q=0
      · obtain ⟨hK,hT,ha,hEE⟩:=Hfin.out hq0;(have hE2:E2=(E:Int):=by rw[hEE,HE.out]);subst hE2;have HT:=jj hT;by_cases hfull:600≤n0
        · (have hPe:P=.error (j,4):=by rw[Hres2.out,S2.out hq0 hfull];rfl);have HPe:=jj hPe;(have e6:(n0:Int)≥600:=by omega);(have e6':(600:Int)≤(n0:Int):=by omega);subst hq0;clear hPe hfull hK hT ha hEE;go_wp2
          go_ret3
          exact ⟨none,0,0,by rw[HPe.out];rfl,by rw[HPe.out];exact TkS.nil _,HB4.out⟩
        · (have e6:¬(n0:Int)≥600:=by omega);(have e6':¬(600:Int)≤(n0:Int):=by omega);(have hn0l:n0<600:=by omega);have HP3:=jj (S3.out hq0 hn0l l);have Hn1:=jj (Hqw.out hq0);(have hszx:w.heap.size≤(w3.alloc (.cells #[.int .i64 K,.string T,.int .i64 a,.int .i64 (E:Int)] 66)).heap.size:=by simp;omega);have Hszx:=jj hszx;have HTok:=jj (show (⟨x.1,x.2.1,(j:Int),(E:Int)⟩:Tk)=⟨K,x.2.1,a,(E:Int)⟩ by rw[hK,ha]);obtain ⟨W4,hW4⟩:=jx (w3.alloc (.cells #[.int .i64 K,.string T,.int .i64 a,.int .i64 (E:Int)] 66));rw[hW4] at HO4 HB4 HF3 Hszx;have HW4:=jj hW4;have Hne:=jj (show (Value.slice A0 n0 c0).ownBlock≠some w3.heap.size from fun e=>Nat.lt_irrefl _ (World.ownsRow.lt HO3.out _ e).2);subst hq0;clear hfull hK hT ha hEE hszx hW4;go_upto_region 9 with (fail);rw[HW4.out];obtain ⟨-,f0,f1,f2,f3⟩:=HF3.out;go_wp2_with (at_builtin;refine jid rfl (.tmp 36) (.tmp 38) 39 rfl i0 _ 40 Tryz.underlying39 hi hz0 hz1 hz2 rfl w.heap.size (.slice A0 n0 c0) l rfl W4 ⟨K,x.2.1,a,(E:Int)⟩ _ _ _ _ rfl (congrArg Value.string HT.out) rfl rfl HO4.out Hszx.out _ rfl rfl (by rw[←Hn0.out];omega) (by rw[←Hn0.out];unfold maxLen;omega) _ ?_);intro v' w6 hown6 hb6 hfar6;obtain ⟨-,f0',f1',f2',f3'⟩:=HF3.out.far hfar6 Hne.out;obtain ⟨A6,n6,c6,rfl,-,-⟩:=hown6.s;have HO6:=jj hown6;have HB6:=jj (HB4.out.trans hb6);clear hown6 hb6 hfar6 f0 f1 f2 f3;go_wp2_with fail;(with_reducible refine (HSk.out _).mono ?_);rintro e w7 ⟨rfl,rfl⟩;go_wp2;go_roundw
          case rel =>
            have h1:=HSx.out;have h2:=Hn1.out;have h4:=HE.out;have hJ:=HJ.out;refine ⟨J,l++[⟨K,x.2.1,a,(E:Int)⟩],k - 1,rfl,by omega,by rw[←h1.2];exact jfr _ _,by omega,?_,?_,HO6.out,HB6.out⟩
            · rw[←h1.2,List.length_append,←Hn0.out,←HTok.out];exact Hres2.out.trans HP3.out
            · rw[List.length_append,←Hn0.out];simp only[List.length_cons,List.length_nil];omega
          case measure =>
            have h1:=HSx.out;have h2:=Hn1.out;have h4:=HE.out;have hJ:=HJ.out;simp[intOf];omega
      · (have hPe:P=.error (j,q):=by rw[Hres2.out,S1.out hq0];rfl);have HPe:=jj hPe;have e0:(q==0)=false:=beq_eq_false_iff_ne.2 hq0;(have e0':(q != 0)=true:=by unfold bne;rw[e0];rfl);clear hPe hq0;go_wp2
        go_ret3
        exact ⟨none,0,0,by rw[HPe.out];rfl,by rw[HPe.out];exact TkS.nil _,HB4.out⟩
    · have hji:¬(j:Int)<(s.size:Int):=by omega
      have hPe:P=.ok l:=by
        rw[Hres.out,jhc hlt,jez];show Except.ok (l++[])=_;rw[List.append_nil]
      have HPe:=jj hPe;have HTS:=jj hts0;clear hown hb hres hbare hn0 hts0 hPe;go_wp2
      go_ret3
      exact ⟨A0,n0,c0,by rw[HPe.out];rfl,by rw[HPe.out];exact HTS.out,HB.out⟩
theorem rScan (s:ByteArray) (hs:s.size≤2000000) (w:World):Calls Tryz.prog 30 #[.string s] w (GotS w (jmg (jcx false s.data.toList))):=by
  have HC:=jj (rscan false s hs w);obtain ⟨X,hX⟩:=jx (jmg (jcx false s.data.toList));rw[hX] at HC ⊢;clear hX;go_enter Tryz.func30,Tryz.ntmps30;go_wp2_with fail;(with_reducible refine HC.out.mono ?_);rintro e w1 ⟨A,n,c,rfl,hts,hb⟩;have H:=jj hts;have HB:=jj hb;clear hts hb;go_wp2
  go_ret3
  exact ⟨A,n,c,rfl,H.out,HB.out⟩
end
end Go.Proofs.YtonoklmobocikaaGreatDoor
