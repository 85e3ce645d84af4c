/- Lemmas. -/
import Derived.Deep.RegionWith
import Derived.Test.YtonoklmobocikaaGreatDoorK29
set_option linter.unusedVariables false
set_option linter.unusedSimpArgs false
set_option maxRecDepth 20000
set_option maxHeartbeats 6400000
namespace Go.Proofs.YtonoklmobocikaaGreatDoor
section
open Go.RowKit
def jmg:Except (Nat × Int) (List Tk)→List Tk × Int × Int
  | .error x=>([],(x.1:Int),x.2)
  | .ok l=>(l,0,0)
def GotS (w:World) (x:List Tk × Int × Int) (e:Ending) (w':World):Prop :=
  ∃A n c,e=.returned (.tuple #[.slice A n c,.int .i64 x.2.1,.int .i64 x.2.2])∧TkS w' A n c x.1∧Below w.heap.size w w'
def appE (l:List Tk):Except (Nat × Int) (List Tk)→Except (Nat × Int) (List Tk)
  | .error e=>.error e
  | .ok m=>.ok (l++m)
theorem pre_le {pat:Bool} {r:List UInt8} (hr:r≠[]):(jcy pat r).2.2≤r.length:=by
  cases r with
  | nil=>exact absurd rfl hr
  | cons c x =>
    rcases jhk pat c with h1 | h1 | h1 | h1 | ⟨h1,h2,h3,h4⟩
    · rw[jf9 (r:=c :: x) h1];exact jgi _
    · rw[jdr (r:=c :: x) h1];exact jgi _
    · subst h1;rw[jeq]
      cases hl:jf2 x with
      | none=>exact Nat.zero_le _
      | some y =>
        have:=jlt _ x (Nat.le_refl _) y.1 y.2 hl;simp only[List.length_cons];omega
    · obtain ⟨rfl,rfl⟩:=h1;by_cases hm:x.headD 0=36
      · cases x with
        | nil=>exact absurd hm (by decide)
        | cons y x =>
          have hy:y=36:=hm;subst hy;rw[jg9];have:(jbl x).length≤x.length:=jgi x;simp only[List.length_cons];omega
      · rw[jg8 x hm];have:(jbl x).length≤x.length:=jgi x;simp only[List.length_cons];omega
    · rw[jds h1 h2 h3 h4];split
      · rename_i h;exact h.1
      · simp
theorem pre_text {pat:Bool} {r:List UInt8}:(jcy pat r).2.1.length≤r.length:=by
  cases r with
  | nil=>cases pat<;>simp[jcy,dgB,ltB,jim]
  | cons c x =>
    rcases jhk pat c with h1 | h1 | h1 | h1 | ⟨h1,h2,h3,h4⟩
    · rw[jf9 (r:=c :: x) h1];exact jgi _
    · rw[jdr (r:=c :: x) h1];exact jgi _
    · subst h1;rw[jeq]
      cases hl:jf2 x with
      | none=>exact Nat.zero_le _
      | some y =>
        have:=jlt _ x (Nat.le_refl _) y.1 y.2 hl;simp only[List.length_cons];omega
    · obtain ⟨rfl,rfl⟩:=h1;by_cases hm:x.headD 0=36
      · cases x with
        | nil=>exact absurd hm (by decide)
        | cons y x =>
          have hy:y=36:=hm;subst hy;rw[jg9];have:(jbl x).length≤x.length:=jgi x;simp only[List.length_cons];omega
      · rw[jg8 x hm];have:(jbl x).length≤x.length:=jgi x;simp only[List.length_cons];omega
    · rw[jds h1 h2 h3 h4];split<;>(rw[List.length_take];omega)
theorem appE_snoc (l:List Tk) (t:Tk) (x:Except (Nat × Int) (List Tk)):appE l (match x with | .error e=>.error e | .ok m=>.ok (t :: m))=appE (l++[t]) x:=by
  cases x with
  | error e=>rfl
  | ok m=>show Except.ok (l++t :: m)=Except.ok ((l++[t])++m);rw[List.append_assoc];try rfl
theorem scan_step (k:Nat) (pat:Bool) (D n:Nat) (r:List UInt8) (hr:r≠[]) (hk:r.length<k) :
    (jgj pat r≠0→jea k pat D n r=.error (D - r.length,jgj pat r))∧(jgj pat r=0→600≤n→jea k pat D n r=.error (D - r.length,4)) ∧
    (jgj pat r=0→n<600→∀l,appE l (jea k pat D n r)=appE (l++[⟨(jcy pat r).1,(jcy pat r).2.1,((D - r.length:Nat):Int),((D - r.length+(jcy pat r).2.2:Nat):Int)⟩]) (jea (k - 1) pat D (n+1) (skS (r.drop (jcy pat r).2.2)))):=by
  cases r with
  | nil=>exact absurd rfl hr
  | cons c x =>
    cases k with
    | zero=>omega
    | succ k =>
      refine ⟨fun h=>?_,fun h hn=>?_,fun h hn l=>?_⟩
      · rw[jkh h];try rfl
      · rw[jjs h hn];try rfl
      · rw[ji4 h hn,←appE_snoc];try rfl
theorem kind_ways {pat:Bool} {r:List UInt8} (hr:r≠[]) {k0 K:Int} {kw:Bool} (h0:(jmi pat r).1=k0) (hK:(jcy pat r).1=K) (hk:jjm (jcy pat r).2.1=kw) :
    (k0=1∧kw=true∧K=2)∨(k0=1∧kw=false∧K=1)∨((k0==1)=false∧K=k0):=by
  have h:=pre_kw pat r hr;rw[h0,hK,hk] at h;by_cases h1:k0=1
  · cases kw with
    | true=>rw[if_pos ⟨h1,rfl⟩] at h;exact Or.inl ⟨h1,rfl,h⟩
    | false=>rw[if_neg (fun x=>by cases x.2)] at h;exact Or.inr (Or.inl ⟨h1,rfl,by rw[h,h1]⟩)
  · rw[if_neg (fun x=>h1 x.1)] at h;exact Or.inr (Or.inr ⟨beq_eq_false_iff_ne.2 h1,h⟩)
theorem jle (d:List UInt8) (k:Nat) (hk:k≤d.length):(skS (d.drop k)).length≤d.length - k∧skS (d.drop k)=d.drop (d.length - (skS (d.drop k)).length):=by
  obtain ⟨g,hg,_⟩:=skB_gap (d.drop k) false;have hl:=congrArg List.length hg;rw[List.length_drop,List.length_append] at hl;have hl:d.length - k=g.length+(skS (d.drop k)).length:=hl;refine ⟨by omega,?_⟩;(have:d.length - (skS (d.drop k)).length=k+g.length:=by omega);rw[this,←List.drop_drop]
  conv=>rhs;rw[hg]
  rw[List.drop_append,List.drop_length,Nat.sub_self,List.drop_zero,List.nil_append]
set_option maxHeartbeats 12800000 in
theorem pscan (N:Nat) (pat:Bool) (s:ByteArray) (hs:s.size≤2000000) (w:World)
    (hcf:∀(xs:Array Value) (W:World),(callFunc N xs).run Tryz.prog W=.ok (.enter N xs) W)
    (hp:∀(s1:ByteArray) (W:World),0<s1.size→s1.size≤2000000→Calls Tryz.prog N #[.string s1] W (GotK W (jmi pat s1.data.toList))) :
    Calls Tryz.prog 56 #[.string s,.func (.func N) #[] #[]] w (GotS w (jmg (jcx pat s.data.toList))):=by
  obtain ⟨i0,hi,hz0,hz1,hz2⟩:=info_parts infoTk;have HKW:=jj (pkeywords w);have Hp:=jj hp;have HSk:=jj (fun W=>jng s hs W);obtain ⟨P,hP⟩:=jx (jcx pat s.data.toList);rw[hP];have HP:=jj hP;clear hP hp;go_enter Tryz.func56,Tryz.ntmps56;go_wp2_with fail;(with_reducible refine HKW.out.mono ?_);rintro e w1 ⟨rfl,hkw,hb1⟩;have hmb:=hkw.lt;have HK:=jj hkw;have HB1:=jj hb1;clear hkw hb1 HKW;obtain ⟨mb,hmbe⟩:=jx (w.heap.size);rw[hmbe] at HK hmb ⊢;have Hmb:=jj hmbe;clear hmbe;go_wp2_with fail;(with_reducible refine (HSk.out _).mono ?_);rintro e w2 ⟨rfl,hb2⟩;have HK2:=jj (HK.out.below hb2);have HB2:=jj (HB1.out.trans (hb2.mono HB1.out.size));clear hb2 HK HB1 HSk;go_wp2_with fail
  go_loopw [8,9] (fun u x wr=>∃(s1:ByteArray) (l:List Tk) (k:Nat),x=.string s1∧s1.size≤s.size∧s1.data.toList=s.data.toList.drop (s.size - s1.size)∧s1.size<k∧Bare s1.data.toList ∧
      P=appE l (jea k pat s.size l.length s1.data.toList)∧l.length≤600∧OwnT wr w2.heap.size u l∧Below w2.heap.size w2 wr) (fun _ x _=>lenOf x)
  case atStart =>
    have hsx:=jle s.data.toList 0 (Nat.zero_le _);rw[List.drop_zero,size_list] at hsx;refine ⟨bs (skS s.data.toList),[],s.size+1,rfl,by rw[jbs];omega,by rw[jac,jbs];exact hsx.2,by rw[jbs];omega,by rw[jac];exact jfr _ _,?_,by simp,OwnT.nil _ _,Below.refl _ _⟩;rw[jac,←HP.out];unfold jcx;rw[size_list];show _=appE [] (jea (s.size+1) pat s.size 0 (skS s.data.toList));cases jea (s.size+1) pat s.size 0 (skS s.data.toList)<;>rfl
  case round =>
    obtain ⟨s1,l,k,rfl,hle,hsuf,hk,hbare,hres,hl600,hown,hb⟩:=hrel;obtain ⟨wo,hwo⟩:∃wo,wo=wr:=⟨wr,rfl⟩;subst hwo;have hszo:=hb.size;have HO:=jj hown;have HB:=jj hb;have Hres:=jj hres;have Hsuf:=jj hsuf;(have hs1:s1.size≤2000000:=by omega);by_cases he:s1.size=0
    · obtain rfl:=jly he
      have hPe:P=.ok l:=by
        rw[Hres.out];show appE l (jea k pat s.size l.length [])=_;rw[jez];show Except.ok (l++[])=_;rw[List.append_nil]
      have HPe:=jj hPe;obtain ⟨A,n,c,rfl,hn,hts⟩:=hown.s;have HTS:=jj hts;have HB4:=jj (HB2.out.trans (hb.mono HB2.out.size));clear hown hb hres hsuf hk hbare hPe hn hts he;go_wp2
      go_ret3
      exact ⟨A,n,c,by rw[HPe.out];rfl,by rw[HPe.out];exact HTS.out,HB4.out⟩
    · (have hpos:0<s1.size:=by omega);have hne:=jk2 s1 hpos;obtain ⟨r,hr⟩:=jx (s1.data.toList);(have hrl:r.length=s1.size:=by rw[←hr,size_list]);(have hrn:r≠[]:=fun e=>by rw[e] at hrl;simp at hrl;omega);obtain ⟨hstep1,hstep2,hstep3⟩:=scan_step k pat s.size l.length r hrn (by omega);have hn:=pre_le (pat:=pat) hrn;have htx:=pre_text (pat:=pat) (r:=r);rw[hr] at hres hsuf;have Hres2:=jj hres;obtain ⟨A0,n0,c0,rfl,hn0,hts0⟩:=hown.s;have hnc0:=hts0.1;have hcc0:=hts0.2.1;have Hn0:=jj hn0;rw[←hn0] at hstep1 hstep2 hstep3 hl600 Hres2;rw[hrl] at hstep1 hstep2 hstep3 hn htx;have HC:=Hp.out s1 wo hpos hs1;rw[hr] at HC;obtain ⟨k0,hk0⟩:=jx ((jmi pat r).1);obtain ⟨K,hK⟩:=jx ((jcy pat r).1);obtain ⟨kw,hkw⟩:=jx (jjm (jcy pat r).2.1);have hways:=kind_ways hrn hk0 hK hkw;(have hpre:jmi pat r=(k0,(jcy pat r).2.1,(jcy pat r).2.2):=by rw[←hk0];rfl);rw[hpre] at HC;(have herr:jgj pat r=jcd K (jcy pat r).2.1:=by unfold jgj;rw[hK]);obtain ⟨tx,htxe⟩:=jx ((jcy pat r).2.1);obtain ⟨n,hne'⟩:=jx ((jcy pat r).2.2);obtain ⟨q,hq⟩:=jx (jgj pat r);rw[hq] at herr hstep1 hstep2 hstep3;rw[hK,htxe,hne'] at hstep3;rw[htxe] at hkw htx herr HC;rw[hne'] at hn HC;obtain ⟨T,hT⟩:=jx (bs tx);(have hTl:T.data.toList=tx:=by rw[←hT,jac]);(have hTs:T.size≤2000000:=by rw[←size_list,hTl];omega);obtain ⟨a,ha⟩:=jx (s.size - s1.size);rw[ha] at hstep1 hstep2 hstep3 hsuf;obtain ⟨E,hE⟩:=jx (a+n);rw[hE] at hstep3;(have hA:(s.size:Int) - (s1.size:Int)=(a:Int):=by omega);(have hEE:(n:Int)+(a:Int)=(E:Int):=by omega);(have hEs:E≤s.size:=by omega);(have hEi:(E:Int)≤(s.size:Int):=by omega);have HF:=jj (fun (W:World) (hW:KwD W mb)=>pfault K (a:Int) (E:Int) T hTs mb W hW q (by rw[hTl];exact herr.symm))
      have HLk:=jj (fun (W:World) (hW:KwD W mb)=>(by
        have h:=hW.look T (by unfold maxLen;omega);rw[hTl,hkw] at h
        exact h:(Instr.lookup 94 (.map (some mb)) (.string T) false).run Tryz.prog W=.ok (.bool kw) W))
      have HC:Calls Tryz.prog N #[.string s1] wo fun e w'=>e=.returned (.agg #[.int .i64 k0,.string (bs tx),.int .i64 0,.int .i64 (n:Int)])∧Below wo.heap.size wo w':=HC;rw[hT] at HC;have HC:=jj HC;(have hdrop:r.drop n=s.data.toList.drop E:=by rw[hsuf,List.drop_drop,hE]);have hsx:=jle s.data.toList E (by rw[size_list];exact hEs);rw[size_list] at hsx;have HSx:=jj hsx;have HDr:=jj hdrop;have S1:=jj hstep1;have S2:=jj hstep2;have S3:=jj hstep3;have HTl:=jj hTl;have HTb:=jj (show bs tx=T from hT);have Hq:=jj hq
      have Hqw:=jj (show q=0→1≤n from fun h=>by
        have:=jia hrn (by rw[hq];exact h);rw[hne'] at this
        exact this.1)
      have Han:=jj (show s1.size=s.size - a by omega);have Hae:=jj hE;clear hown hb hres hsuf hbare hn0 hts0 hr hrl hrn hstep1 hstep2 hstep3 hk0 hK hkw hpre herr htxe hne' hq hT hTl ha hE hdrop hsx htx he;rcases hways with ⟨rfl,rfl,rfl⟩ | ⟨rfl,rfl,rfl⟩ | ⟨e1,rfl⟩
      ·
        go_wp2_with fail;(with_reducible refine HC.out.mono ?_);rintro e w3 ⟨rfl,hb3⟩;have HB3:=jj (HB.out.trans (hb3.mono hszo));have hsz3:=hb3.size;have HO3:=jj (HO.out.below hb3);have HK3:=jj (HK2.out.below HB3.out);clear hb3;have hlk:=HLk.out _ (HK3.out.below (jak (Below.refl w3.heap.size w3) (.cells #[.int .i64 1,.string T,.int .i64 0,.int .i64 (n:Int)] 66)));have HBx:=jj (jak (Below.refl w3.heap.size w3) (.cells #[.int .i64 2,.string T,.int .i64 (a:Int),.int .i64 (E:Int)] 66));have HFx:=jj (jet w3 (.int .i64 2) (.string T) (.int .i64 (a:Int)) (.int .i64 (E:Int)) 66);have HF:=jj (HF.out _ (HK3.out.below HBx.out));go_wp2_with fail;(with_reducible refine HF.out.mono ?_);rintro e w5 ⟨rfl,hb5⟩;have HF5:=jj (HFx.out.keep hb5);obtain ⟨f9,f0,f1,f2,f3⟩:=HFx.out.keep hb5;have HB5:=jj (bgo HBx.out hb5);have hsz5:w3.heap.size≤w5.heap.size:=HB5.out.size;have HO5:=jj (HO3.out.below HB5.out);have HB5':=jj (HB3.out.trans (HB5.out.mono (by omega)));clear hb5 f9 hlk;by_cases hq0:q=0
        · by_cases hfull:600≤n0
          · (have hPe:P=.error (a,4):=by rw[Hres2.out,S2.out hq0 hfull];rfl);have HPe:=jj hPe;(have e6:((n0:Int)==600)=true:=by rw[beq_iff_eq];omega);have HB6:=jj (HB2.out.trans (HB5'.out.mono HB2.out.size));subst hq0;clear hPe hfull;go_wp2;go_quiet (fail);go_wp2
            go_ret3
            exact ⟨none,0,0,by rw[HPe.out];rfl,by rw[HPe.out];exact TkS.nil _,bdr HB6.out _⟩
          · (have e6:((n0:Int)==600)=false:=by rw[beq_eq_false_iff_ne];omega);(have hn0l:n0<600:=by omega);have HP3:=jj (S3.out hq0 hn0l l);have Hn1:=jj (Hqw.out hq0);(have hszx:w2.heap.size≤w5.heap.size:=by omega);subst hq0;clear hfull;go_wp2_with (at_builtin;refine jid rfl (.tmp 57) (.tmp 59) 39 rfl i0 _ 40 Tryz.underlying39 hi hz0 hz1 hz2 rfl w2.heap.size (.slice A0 n0 c0) l rfl w5 ⟨2,tx,(a:Int),(E:Int)⟩ _ _ _ _ rfl (congrArg Value.string HTb.out.symm) rfl rfl HO5.out hszx _ rfl rfl (by rw[←Hn0.out];omega) (by rw[←Hn0.out];unfold maxLen;omega) _ ?_);intro v' w6 hown6 hb6 hfar6;obtain ⟨-,f0',f1',f2',f3'⟩:=HF5.out.far hfar6 (fun e=>Nat.lt_irrefl _ (World.ownsRow.lt HO3.out _ e).2);obtain ⟨A6,n6,c6,rfl,-,-⟩:=hown6.s;have HO6:=jj hown6;have HB6:=jj (HB5'.out.trans hb6);clear hown6 hb6 hfar6 f0 f1 f2 f3;have HSk:=jj (jng (s.extract E s.size) (by rw[jeu,jbs,List.length_drop,size_list];omega) w6);rw[jeu,jac,←jeu] at HSk;go_wp2_with fail;(with_reducible refine HSk.out.mono ?_);rintro e w7 ⟨rfl,hb7⟩;have HO7:=jj (HO6.out.below hb7);have HB7:=jj (HB6.out.trans (hb7.mono HB6.out.size));clear hb7;go_wp2;go_roundw
            case rel =>
              have h1:=HSx.out;have h2:=Hn1.out;have h3:=Han.out;have h4:=Hae.out;refine ⟨_,l++[⟨2,tx,(a:Int),(E:Int)⟩],k - 1,rfl,by rw[jbs];omega,by rw[jac,jbs];exact h1.2,by rw[jbs];omega,by rw[jac];exact jfr _ _,?_,?_,HO7.out,HB7.out⟩
              · rw[jac,←HDr.out,List.length_append,←Hn0.out];exact Hres2.out.trans HP3.out
              · rw[List.length_append,←Hn0.out];simp only[List.length_cons,List.length_nil];omega
            case measure =>
              have h1:=HSx.out;have h2:=Hn1.out;have h3:=Han.out;have h4:=Hae.out;simp only[lenOf];rw[jbs];omega
        · (have hPe:P=.error (a,q):=by rw[Hres2.out,S1.out hq0];rfl);have HPe:=jj hPe;have e0:(q==0)=false:=beq_eq_false_iff_ne.2 hq0;(have e0':(q != 0)=true:=by unfold bne;rw[e0];rfl);have HB6:=jj (HB2.out.trans (HB5'.out.mono HB2.out.size));clear hPe hq0;go_wp2;go_quiet (fail);go_wp2
          go_ret3
          exact ⟨none,0,0,by rw[HPe.out];rfl,by rw[HPe.out];exact TkS.nil _,bdr HB6.out _⟩
      ·
        go_wp2_with fail;(with_reducible refine HC.out.mono ?_);rintro e w3 ⟨rfl,hb3⟩;have HB3:=jj (HB.out.trans (hb3.mono hszo));have hsz3:=hb3.size;have HO3:=jj (HO.out.below hb3);have HK3:=jj (HK2.out.below HB3.out);clear hb3;have hlk:=HLk.out _ (HK3.out.below (jak (Below.refl w3.heap.size w3) (.cells #[.int .i64 1,.string T,.int .i64 0,.int .i64 (n:Int)] 66)));have HBx:=jj (jak (Below.refl w3.heap.size w3) (.cells #[.int .i64 1,.string T,.int .i64 (a:Int),.int .i64 (E:Int)] 66));have HFx:=jj (jet w3 (.int .i64 1) (.string T) (.int .i64 (a:Int)) (.int .i64 (E:Int)) 66);have HF:=jj (HF.out _ (HK3.out.below HBx.out));go_wp2_with fail;(with_reducible refine HF.out.mono ?_);rintro e w5 ⟨rfl,hb5⟩;have HF5:=jj (HFx.out.keep hb5);obtain ⟨f9,f0,f1,f2,f3⟩:=HFx.out.keep hb5;have HB5:=jj (bgo HBx.out hb5);have hsz5:w3.heap.size≤w5.heap.size:=HB5.out.size;have HO5:=jj (HO3.out.below HB5.out);have HB5':=jj (HB3.out.trans (HB5.out.mono (by omega)));clear hb5 f9 hlk;by_cases hq0:q=0
        · by_cases hfull:600≤n0
          · (have hPe:P=.error (a,4):=by rw[Hres2.out,S2.out hq0 hfull];rfl);have HPe:=jj hPe;(have e6:((n0:Int)==600)=true:=by rw[beq_iff_eq];omega);have HB6:=jj (HB2.out.trans (HB5'.out.mono HB2.out.size));subst hq0;clear hPe hfull;go_wp2;go_quiet (fail);go_wp2
            go_ret3
            exact ⟨none,0,0,by rw[HPe.out];rfl,by rw[HPe.out];exact TkS.nil _,bdr HB6.out _⟩
          · (have e6:((n0:Int)==600)=false:=by rw[beq_eq_false_iff_ne];omega);(have hn0l:n0<600:=by omega);have HP3:=jj (S3.out hq0 hn0l l);have Hn1:=jj (Hqw.out hq0);(have hszx:w2.heap.size≤w5.heap.size:=by omega);subst hq0;clear hfull;go_wp2_with (at_builtin;refine jid rfl (.tmp 57) (.tmp 59) 39 rfl i0 _ 40 Tryz.underlying39 hi hz0 hz1 hz2 rfl w2.heap.size (.slice A0 n0 c0) l rfl w5 ⟨1,tx,(a:Int),(E:Int)⟩ _ _ _ _ rfl (congrArg Value.string HTb.out.symm) rfl rfl HO5.out hszx _ rfl rfl (by rw[←Hn0.out];omega) (by rw[←Hn0.out];unfold maxLen;omega) _ ?_);intro v' w6 hown6 hb6 hfar6;obtain ⟨-,f0',f1',f2',f3'⟩:=HF5.out.far hfar6 (fun e=>Nat.lt_irrefl _ (World.ownsRow.lt HO3.out _ e).2);obtain ⟨A6,n6,c6,rfl,-,-⟩:=hown6.s;have HO6:=jj hown6;have HB6:=jj (HB5'.out.trans hb6);clear hown6 hb6 hfar6 f0 f1 f2 f3;have HSk:=jj (jng (s.extract E s.size) (by rw[jeu,jbs,List.length_drop,size_list];omega) w6);rw[jeu,jac,←jeu] at HSk;go_wp2_with fail;(with_reducible refine HSk.out.mono ?_);rintro e w7 ⟨rfl,hb7⟩;have HO7:=jj (HO6.out.below hb7);have HB7:=jj (HB6.out.trans (hb7.mono HB6.out.size));clear hb7;go_wp2;go_roundw
            case rel =>
              have h1:=HSx.out;have h2:=Hn1.out;have h3:=Han.out;have h4:=Hae.out;refine ⟨_,l++[⟨1,tx,(a:Int),(E:Int)⟩],k - 1,rfl,by rw[jbs];omega,by rw[jac,jbs];exact h1.2,by rw[jbs];omega,by rw[jac];exact jfr _ _,?_,?_,HO7.out,HB7.out⟩
              · rw[jac,←HDr.out,List.length_append,←Hn0.out];exact Hres2.out.trans HP3.out
              · rw[List.length_append,←Hn0.out];simp only[List.length_cons,List.length_nil];omega
            case measure =>
              have h1:=HSx.out;have h2:=Hn1.out;have h3:=Han.out;have h4:=Hae.out;simp only[lenOf];rw[jbs];omega
        · (have hPe:P=.error (a,q):=by rw[Hres2.out,S1.out hq0];rfl);have HPe:=jj hPe;have e0:(q==0)=false:=beq_eq_false_iff_ne.2 hq0;(have e0':(q != 0)=true:=by unfold bne;rw[e0];rfl);have HB6:=jj (HB2.out.trans (HB5'.out.mono HB2.out.size));clear hPe hq0;go_wp2;go_quiet (fail);go_wp2
          go_ret3
          exact ⟨none,0,0,by rw[HPe.out];rfl,by rw[HPe.out];exact TkS.nil _,bdr HB6.out _⟩
      ·
        go_wp2_with fail;(with_reducible refine HC.out.mono ?_);rintro e w3 ⟨rfl,hb3⟩;have HB3:=jj (HB.out.trans (hb3.mono hszo));have hsz3:=hb3.size;have HO3:=jj (HO.out.below hb3);have HK3:=jj (HK2.out.below HB3.out);clear hb3;have hlk:=HLk.out _ (HK3.out.below (jak (Below.refl w3.heap.size w3) (.cells #[.int .i64 K,.string T,.int .i64 0,.int .i64 (n:Int)] 66)));have HBx:=jj (jak (Below.refl w3.heap.size w3) (.cells #[.int .i64 K,.string T,.int .i64 (a:Int),.int .i64 (E:Int)] 66));have HFx:=jj (jet w3 (.int .i64 K) (.string T) (.int .i64 (a:Int)) (.int .i64 (E:Int)) 66);have HF:=jj (HF.out _ (HK3.out.below HBx.out));go_wp2_with fail;(with_reducible refine HF.out.mono ?_);rintro e w5 ⟨rfl,hb5⟩;have HF5:=jj (HFx.out.keep hb5);obtain ⟨f9,f0,f1,f2,f3⟩:=HFx.out.keep hb5;have HB5:=jj (bgo HBx.out hb5);have hsz5:w3.heap.size≤w5.heap.size:=HB5.out.size;have HO5:=jj (HO3.out.below HB5.out);have HB5':=jj (HB3.out.trans (HB5.out.mono (by omega)));clear hb5 f9 hlk;by_cases hq0:q=0
        · by_cases hfull:600≤n0
          · (have hPe:P=.error (a,4):=by rw[Hres2.out,S2.out hq0 hfull];rfl);have HPe:=jj hPe;(have e6:((n0:Int)==600)=true:=by rw[beq_iff_eq];omega);have HB6:=jj (HB2.out.trans (HB5'.out.mono HB2.out.size));subst hq0;clear hPe hfull;go_wp2;go_quiet (fail);go_wp2
            go_ret3
            exact ⟨none,0,0,by rw[HPe.out];rfl,by rw[HPe.out];exact TkS.nil _,bdr HB6.out _⟩
          · (have e6:((n0:Int)==600)=false:=by rw[beq_eq_false_iff_ne];omega);(have hn0l:n0<600:=by omega);have HP3:=jj (S3.out hq0 hn0l l);have Hn1:=jj (Hqw.out hq0);(have hszx:w2.heap.size≤w5.heap.size:=by omega);subst hq0;clear hfull;go_wp2_with (at_builtin;refine jid rfl (.tmp 57) (.tmp 59) 39 rfl i0 _ 40 Tryz.underlying39 hi hz0 hz1 hz2 rfl w2.heap.size (.slice A0 n0 c0) l rfl w5 ⟨K,tx,(a:Int),(E:Int)⟩ _ _ _ _ rfl (congrArg Value.string HTb.out.symm) rfl rfl HO5.out hszx _ rfl rfl (by rw[←Hn0.out];omega) (by rw[←Hn0.out];unfold maxLen;omega) _ ?_);intro v' w6 hown6 hb6 hfar6;obtain ⟨-,f0',f1',f2',f3'⟩:=HF5.out.far hfar6 (fun e=>Nat.lt_irrefl _ (World.ownsRow.lt HO3.out _ e).2);obtain ⟨A6,n6,c6,rfl,-,-⟩:=hown6.s;have HO6:=jj hown6;have HB6:=jj (HB5'.out.trans hb6);clear hown6 hb6 hfar6 f0 f1 f2 f3;have HSk:=jj (jng (s.extract E s.size) (by rw[jeu,jbs,List.length_drop,size_list];omega) w6);rw[jeu,jac,←jeu] at HSk;go_wp2_with fail;(with_reducible refine HSk.out.mono ?_);rintro e w7 ⟨rfl,hb7⟩;have HO7:=jj (HO6.out.below hb7);have HB7:=jj (HB6.out.trans (hb7.mono HB6.out.size));clear hb7;go_wp2;go_roundw
            case rel =>
              have h1:=HSx.out;have h2:=Hn1.out;have h3:=Han.out;have h4:=Hae.out;refine ⟨_,l++[⟨K,tx,(a:Int),(E:Int)⟩],k - 1,rfl,by rw[jbs];omega,by rw[jac,jbs];exact h1.2,by rw[jbs];omega,by rw[jac];exact jfr _ _,?_,?_,HO7.out,HB7.out⟩
              · rw[jac,←HDr.out,List.length_append,←Hn0.out];exact Hres2.out.trans HP3.out
              · rw[List.length_append,←Hn0.out];simp only[List.length_cons,List.length_nil];omega
            case measure =>
              have h1:=HSx.out;have h2:=Hn1.out;have h3:=Han.out;have h4:=Hae.out;simp only[lenOf];rw[jbs];omega
        · (have hPe:P=.error (a,q):=by rw[Hres2.out,S1.out hq0];rfl);have HPe:=jj hPe;have e0:(q==0)=false:=beq_eq_false_iff_ne.2 hq0;(have e0':(q != 0)=true:=by unfold bne;rw[e0];rfl);have HB6:=jj (HB2.out.trans (HB5'.out.mono HB2.out.size));clear hPe hq0;go_wp2;go_quiet (fail);go_wp2
          go_ret3
          exact ⟨none,0,0,by rw[HPe.out];rfl,by rw[HPe.out];exact TkS.nil _,bdr HB6.out _⟩
end
section
open Go.RowKit
theorem right_short {k:Int} {t:List UInt8} (h:jb8 k t=true):t.length≤100000:=by
  have h:=(jfy h).2;unfold jl0 at h;split at h
  · omega
  · split at h<;>omega
theorem jfx {pat:Bool} {d:List UInt8} {T:List Tk} (h:jcx pat d=.ok T):T.length≤600∧∀(i:Nat) (t:Tk),T[i]?=some t→t.text.length≤100000:=by
  obtain ⟨h1,h2⟩:=(jc0 pat d).1 T h;refine ⟨h2,fun i t ht=>right_short (k:=t.kind) ?_⟩;unfold jad at h1;exact List.all_eq_true.1 h1 t (List.mem_of_getElem? ht)
end
section
open Go.RowKit
theorem run_source (xs:Array Value) (W:World):(callFunc 57 xs).run Tryz.prog W=.ok (.enter 57 xs) W:=by kernel_rfl
theorem run_pattern (xs:Array Value) (W:World):(callFunc 73 xs).run Tryz.prog W=.ok (.enter 73 xs) W:=by kernel_rfl
theorem pScan (s:ByteArray) (hs:s.size≤2000000) (w:World):Calls Tryz.prog 32 #[.string s] w (GotS w (jmg (jcx false s.data.toList))):=by
  have HC:=jj (pscan 57 false s hs w run_source fun s1 W h0 h1=>psource s1 h0 h1 W);obtain ⟨X,hX⟩:=jx (jmg (jcx false s.data.toList));rw[hX] at HC ⊢;clear hX;go_enter Tryz.func32,Tryz.ntmps32;go_wp2_with fail;(with_reducible refine HC.out.mono ?_);rintro e w1 ⟨A,n,c,rfl,hts,hb⟩;have H:=jj hts;have HB:=jj hb;clear hts hb;go_wp2
  go_ret3
  exact ⟨A,n,c,rfl,H.out,HB.out⟩
theorem jjy (s:ByteArray) (hs:s.size≤2000000) (w:World):Calls Tryz.prog 38 #[.string s] w (GotS w (jmg (jcx true s.data.toList))):=by
  have HC:=jj (pscan 73 true s hs w run_pattern fun s1 W h0 h1=>ppattern s1 h0 h1 W);obtain ⟨X,hX⟩:=jx (jmg (jcx true s.data.toList));rw[hX] at HC ⊢;clear hX;go_enter Tryz.func38,Tryz.ntmps38;go_wp2_with fail;(with_reducible refine HC.out.mono ?_);rintro e w1 ⟨A,n,c,rfl,hts,hb⟩;have H:=jj hts;have HB:=jj hb;clear hts hb;go_wp2
  go_ret3
  exact ⟨A,n,c,rfl,H.out,HB.out⟩
end
end Go.Proofs.YtonoklmobocikaaGreatDoor
