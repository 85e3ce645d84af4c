/- Lemmas. -/
import Derived.Test.YtonoklmobocikaaGreatDoorK28
set_option linter.unusedVariables false
set_option linter.unusedSimpArgs false
set_option maxRecDepth 20000
set_option maxHeartbeats 6400000
namespace Go.Proofs.YtonoklmobocikaaGreatDoor
section
open Go.RowKit
theorem pvariable (k:Int) (sg s:ByteArray) (hle:sg.size≤s.size) (hs:s.size≤2000000) (w:World) :
    Calls Tryz.prog 128 #[.int .i64 k,.string sg,.string s] w (GotK w (k,jbl (s.data.toList.drop sg.size),sg.size+(jbl (s.data.toList.drop sg.size)).length)):=by
  have HC:=fun W=>jnh 106 wdB (s.extract sg.size s.size) W (by rw[jeu,jbs,List.length_drop,size_list];omega) run_word pword;rw[jeu,jac] at HC
  have hwl:(jbl (s.data.toList.drop sg.size)).length≤s.size:=by
    have:=jgi (p:=wdB) (s.data.toList.drop sg.size);rw[List.length_drop,size_list] at this;unfold jbl;omega
  rw[←jeu] at HC;obtain ⟨nm,hnm⟩:=jx (jbl (s.data.toList.drop sg.size));rw[show (s.data.toList.drop sg.size).takeWhile wdB=nm from hnm] at HC;rw[hnm] at hwl ⊢;obtain ⟨T,hT⟩:=jx (bs nm);(have hTs:T.size=nm.length:=by rw[←hT,jbs]);rw[hT] at HC;have HC:=jj HC;obtain ⟨N,hN⟩:∃N:Int,(sg.size:Int)+(T.size:Int)=N:=⟨_,rfl⟩;have HN:=jj (show N=((sg.size+nm.length:Nat):Int) by rw[←hN,hTs];omega);(have hTl:T.size≤2000000:=by omega);have HF:=jj (jet w (.int .i64 k) (.string T) (.int .i64 0) (.int .i64 N) 66);have HB:=jj (jak (Below.refl w.heap.size w) (.cells #[.int .i64 k,.string T,.int .i64 0,.int .i64 N] 66));have HT:=jj hT;(have hle':(sg.size:Int)≤(s.size:Int):=by omega);clear hnm hT hTs hwl;go_enter Tryz.func128,Tryz.ntmps128;go_wp2_with fail;(with_reducible refine (HC.out _).mono ?_);rintro en w1 ⟨rfl,rfl⟩;go_wp2;exact bodyPost_ret (jh2 rfl _ _ w.heap.size _ _ _ _ rfl HF.out) rfl ⟨by rw[HT.out,HN.out],HB.out⟩
def litK (r:List UInt8):Int × List UInt8 × Nat:=match jf2 r with | none=>(0,[],0) | some x=>(4,x.1,x.2+1)
theorem lit_start (w:World):∃W0,(w.alloc (.cells #[.int .i64 0,.string ⟨#[]⟩,.int .i64 0,.int .i64 0] 66)).alloc (.cells #[.pointer none,.slice none 0 0] 119)=W0∧W0.heap.size=w.heap.size+2 ∧
    Lib.IsBuilder 119 5 (w.heap.size+1) (w.heap.size+1) (Lib.byteCells []) W0∧Four W0 w.heap.size (.int .i64 0) (.string ⟨#[]⟩) (.int .i64 0) (.int .i64 0)∧FreeF W0 w.heap.size∧Below w.heap.size w W0:=by
  have hI:=Lib.fresh_isBuilder 119 5 (w.alloc (.cells #[.int .i64 0,.string ⟨#[]⟩,.int .i64 0,.int .i64 0] 66));(have hs1:(w.alloc (.cells #[.int .i64 0,.string ⟨#[]⟩,.int .i64 0,.int .i64 0] 66)).heap.size=w.heap.size+1:=by simp);rw[hs1] at hI;have hb:=jak (Below.refl _ (w.alloc (.cells #[.int .i64 0,.string ⟨#[]⟩,.int .i64 0,.int .i64 0] 66))) (.cells #[.pointer none,.slice none 0 0] 119);refine ⟨_,rfl,by simp,hI,(jet w _ _ _ _ _).keep hb,(freeF_new w _ _ _ _ _).at_ hb (by simp),jak (jak (Below.refl _ w) _) _⟩
theorem pliteral (s:ByteArray) (h0:0<s.size) (hs:s.size≤2000000) (w:World) :
    Calls Tryz.prog 107 #[.string s] w (GotK w (litK (s.data.toList.drop 1))):=by
  obtain ⟨W0,hW0,hsz0,hI0,hF0,hFr0,hb0⟩:=lit_start w;obtain ⟨P,hP⟩:=jx (litK (s.data.toList.drop 1));rw[hP];have HP:=jj hP;have HW0:=jj hW0;have HI0:=jj hI0;have HF0:=jj hF0;have HR0:=jj hFr0;have HB0:=jj hb0;have HS0:=jj hsz0;clear hP hW0 hI0 hF0 hFr0 hb0 hsz0;(have h1:(1:Int)≤(s.size:Int):=by omega);go_enter Tryz.func107,Tryz.ntmps107;go_wp2_with fail;rw[HW0.out];clear HW0
  go_loopw [4] (fun x wr=>∃(s1:ByteArray) (n:Nat) (acc:List UInt8),x=.string s1∧s1.size+n+1=s.size∧acc.length≤n∧jf2 (s.data.toList.drop 1)=(jf2 s1.data.toList).map (fun y=>(acc++y.1,y.2+n)) ∧
      Lib.IsBuilder 119 5 (w.heap.size+1) (w.heap.size+1) (Lib.byteCells acc) wr∧Below (w.heap.size+1) W0 wr) (fun x _=>lenOf x)
  case atStart =>
    refine ⟨s.extract 1 s.size,0,[],rfl,by rw[jeu,jbs,List.length_drop,size_list];omega,Nat.le_refl _,?_,HI0.out,Below.refl _ _⟩;rw[jeu,jac];cases jf2 (s.data.toList.drop 1)<;>rfl
  case round =>
    clear HI0;obtain ⟨s1,n,acc,rfl,hsz,hacc,hlit,hI,hb⟩:=hrel;obtain ⟨w1,hw1⟩:∃w1,w1=wr:=⟨wr,rfl⟩;subst hw1;have hF1:=HF0.out.at_ hb (Nat.lt_succ_self _);have hR1:=HR0.out.at_ hb (Nat.lt_succ_self _);have hsz1:=hb.size;rw[HS0.out] at hsz1;have HI:=jj hI;have HB:=jj hb;have HF1:=jj hF1;have HR1:=jj hR1;have Hlit:=jj hlit;have Hsz:=jj hsz;(have hs1:s1.size≤2000000:=by omega);clear hI hb hlit;by_cases he:s1.size=0
    · obtain rfl:=jly he;have Hy:=jj (show P=(0,[],0) by rw[←HP.out];unfold litK;rw[Hlit.out];rfl);obtain ⟨⟨-,f0,f1,f2,f3⟩,g0,g1,g2,g3⟩:=And.intro hF1 hR1;clear hF1 hR1 hsz he;go_wp2;refine bodyPost_ret (jh2 rfl _ _ w.heap.size _ _ _ _ rfl (jau HF1.out _ _ _ _)) rfl ⟨by rw[Hy.out];rfl,jal (HB0.out.trans (HB.out.mono (by omega))) (Nat.le_refl _)⟩
    · (have hpos:0<s1.size:=by omega);have hne:=jk2 s1 hpos;have hh:=jl3 hpos;(have hp1:(0:Int)<(s1.size:Int):=by omega);have h34:(((s1[0]).toNat:Int)==34)=decide (s1[0]=34):=je9 (n:=34) (by decide);by_cases h3:s1[0]=34
      · rw[decide_eq_true h3] at h34
        have Hy:=jj (show P=(4,acc,n+2) by
          rw[←HP.out];unfold litK;rw[Hlit.out,hh,h3,jno];simp only[Option.map_some,List.append_nil]
          rw[show 1+n+1=n+2 by omega])
        (have hN:(s.size:Int) - (s1.size:Int)+1=((n+2:Nat):Int):=by omega);obtain ⟨N,hNN⟩:∃N:Int,(s.size:Int) - (s1.size:Int)+1=N:=⟨_,rfl⟩;have HN:=jj (show N=((n+2:Nat):Int) by rw[←hNN,hN]);clear hh h3 hsz he hN hF1 hR1;go_wp2_with fail;refine (Tryz.Builder_String_any _ _ _ _ HI.out (by omega)).mono ?_;rintro e w2 ⟨rfl,hb2⟩;have HF2:=jj (HF1.out.at_ hb2 (Nat.lt_succ_self _));have HR2:=jj (HR1.out.at_ hb2 (Nat.lt_succ_self _));have HB2:=jj (HB0.out.trans ((HB.out.trans hb2).mono (by omega)));obtain ⟨⟨-,f0,f1,f2,f3⟩,g0,g1,g2,g3⟩:=And.intro HF2.out HR2.out;obtain ⟨Z,hZ⟩:=jx ((⟨acc.toArray⟩:ByteArray));rw[hZ];have HZ:=jj (show Z=bs acc from hZ.symm);clear hb2 hZ;go_wp2;refine bodyPost_ret (jh2 rfl _ _ w.heap.size _ _ _ _ rfl (jau HF2.out _ _ _ _)) rfl ⟨by rw[Hy.out,←HZ.out,←HN.out],jal HB2.out (Nat.le_refl _)⟩
      · rw[decide_eq_false h3] at h34;(have hh34:¬s1.data.toList.head?=some 34:=by rw[hh];intro e;injection e with e;exact h3 e);have HC:=jj (pcontentS s1 hpos _ rfl w1);obtain ⟨cc,hcc⟩:=jx (jlb s1.data.toList);rw[hcc] at HC;by_cases hz:cc.2=0
        · have Hy:=jj (show P=(0,[],0) by
            rw[←HP.out];unfold litK;rw[Hlit.out,con_bad (by rw[hcc];exact hz) hh34]
            rfl)
          obtain ⟨⟨-,f0,f1,f2,f3⟩,g0,g1,g2,g3⟩:=And.intro hF1 hR1;rw[hz] at HC;clear hh h3 hsz he hh34 hcc hz hF1 hR1;go_wp2_with fail;(with_reducible refine HC.out.mono ?_);rintro e w2 ⟨rfl,rfl⟩;go_wp2;refine bodyPost_ret (jh2 rfl _ _ w.heap.size _ _ _ _ rfl (jau HF1.out _ _ _ _)) rfl ⟨by rw[Hy.out];rfl,jal (HB0.out.trans (HB.out.mono (by omega))) (Nat.le_refl _)⟩
        · obtain ⟨hg,hg1,hg2⟩:=con_good (by rw[hcc];exact hz) hh34;rw[hcc] at hg hg1 hg2;obtain ⟨c,m⟩:=cc;dsimp only at hg hg1 hg2 hz HC;rw[size_list] at hg2;have Hg:=jj hg;have hmz:((m:Int)==0)=false:=beq_eq_false_iff_ne.2 (by omega);(have hm1:(m:Int)≤(s1.size:Int):=by omega);clear hh h3 he hh34 hcc hz hg hF1 hR1;go_wp2_with fail;(with_reducible refine HC.out.mono ?_);rintro e w2 ⟨rfl,rfl⟩;go_wp2_with fail;refine (Tryz.Builder_WriteByte _ _ _ (c.toNat:Int) _ HI.out (by rw[jm0];omega) (by omega)).mono ?_;rintro e w3 ⟨rfl,hI3,hb3⟩
          have HI3:=jj (show Lib.IsBuilder 119 5 (w.heap.size+1) (w.heap.size+1) (Lib.byteCells (acc++[c])) w3 by
            rw[Go.Lib.byteCells_append]
            exact Or.inr hI3)
          have HB3:=jj (HB.out.trans hb3);clear hI3 hb3 hsz;go_wp2;go_roundw
          case rel =>
            refine ⟨s1.extract m s1.size,n+m,acc++[c],rfl,?_,?_,?_,HI3.out,HB3.out⟩
            · rw[jeu,jbs,List.length_drop,size_list];have:=Hsz.out;omega
            · rw[List.length_append];simp only[List.length_cons,List.length_nil];omega
            · rw[Hlit.out,Hg.out,jeu,jac,Option.map_map];congr 1;funext y;simp only[Function.comp,List.append_assoc,List.singleton_append];congr 1;omega
          case measure =>
            simp only[lenOf];rw[jeu,jbs,List.length_drop,size_list];omega
end
section
open Go.RowKit
def jmi (pat:Bool) (r:List UInt8):Int × List UInt8 × Nat:=(if (jcy pat r).1=2 then 1 else (jcy pat r).1,(jcy pat r).2.1,(jcy pat r).2.2)
theorem pre_kw (pat:Bool) (r:List UInt8) (hr:r≠[]):(jcy pat r).1=if (jmi pat r).1=1∧jjm (jcy pat r).2.1=true then 2 else (jmi pat r).1:=by
  cases r with
  | nil=>exact absurd rfl hr
  | cons c x =>
    unfold jmi;rcases jhk pat c with h1 | h1 | h1 | h1 | ⟨h1,h2,h3,h4⟩
    · rw[jf9 (r:=c :: x) h1];simp
    · rw[jdr (r:=c :: x) h1];cases jjm (jbl (c :: x))<;>simp
    · subst h1;rw[jeq];cases jf2 x<;>simp
    · obtain ⟨rfl,rfl⟩:=h1;by_cases hm:x.headD 0=36
      · cases x with
        | nil=>exact absurd hm (by decide)
        | cons y x =>
          have hy:y=36:=hm;subst hy;rw[jg9];simp
      · rw[jg8 x hm];simp
    · rw[jds h1 h2 h3 h4];split<;>simp
theorem preN_int {pat:Bool} {r:List UInt8} (h:dgB (r.headD 0)=true):jmi pat r=(3,jho r,(jho r).length):=by unfold jmi;rw[jf9 h];try rfl
theorem preN_word {pat:Bool} {r:List UInt8} (h:ltB (r.headD 0)=true):jmi pat r=(1,jbl r,(jbl r).length):=by
  unfold jmi;rw[jdr h];cases jjm (jbl r)<;>rfl
theorem preN_lit (pat:Bool) (r:List UInt8):jmi pat (34 :: r)=litK r:=by
  unfold jmi litK;rw[jeq];cases jf2 r<;>rfl
theorem preN_many (r:List UInt8):jmi true (36 :: 36 :: r)=(7,jbl r,2+(jbl r).length):=by unfold jmi;rw[jg9];try rfl
theorem preN_meta (r:List UInt8) (h:¬r.headD 0=36):jmi true (36 :: r)=(6,jbl r,1+(jbl r).length):=by unfold jmi;rw[jg8 r h];try rfl
theorem preN_mark {pat:Bool} {c:UInt8} {r:List UInt8} (h1:dgB c=false) (h2:ltB c=false) (h3:¬c=34) (h4:¬(pat=true∧c=36)):jmi pat (c :: r)=(5,jmm (c :: r),(jmm (c :: r)).length):=by
  unfold jmi jmm;rw[jds h1 h2 h3 h4];split
  · rename_i h;(have:((c :: r).take 2).length=2:=by rw[List.length_take];omega);simp only[this];try rfl
  · rfl
theorem preN_sign {pat:Bool} {c:UInt8} {r:List UInt8} (h:¬(pat=true∧c=36)):jmi pat (c :: r)=jmi false (c :: r):=by
  (have h':¬(false=true∧c=36):=by simp);unfold jmi
  have:jcy pat (c :: r)=jcy false (c :: r):=by
    rcases jhk pat c with h1 | h1 | h1 | h1 | ⟨h1,h2,h3,h4⟩
    · rw[jf9 (r:=c :: r) h1,jf9 (r:=c :: r) h1]
    · rw[jdr (r:=c :: r) h1,jdr (r:=c :: r) h1]
    · subst h1;rw[jeq,jeq]
    · exact absurd h1 h
    · rw[jds h1 h2 h3 h4,jds h1 h2 h3 h']
  rw[this]
theorem jfn (w:World):∃W0,w.alloc (.cells #[.int .i64 0,.string ⟨#[]⟩,.int .i64 0,.int .i64 0] 66)=W0∧Four W0 w.heap.size (.int .i64 0) (.string ⟨#[]⟩) (.int .i64 0) (.int .i64 0)∧FreeF W0 w.heap.size∧Below w.heap.size w W0∧W0.heap.size=w.heap.size+1 :=
  ⟨_,rfl,jet w _ _ _ _ _,freeF_new w _ _ _ _ _,jak (Below.refl _ w) _,by simp⟩
theorem lead_size {s:ByteArray} (p:UInt8→Bool) (hs:s.size≤2000000):(s.data.toList.takeWhile p).length≤2000000:=by
  have:=jgi (p:=p) s.data.toList;rw[size_list] at this;omega
theorem psource (s:ByteArray) (h0:0<s.size) (hs:s.size≤2000000) (w:World):Calls Tryz.prog 57 #[.string s] w (GotK w (jmi false s.data.toList)):=by
  obtain ⟨W0,hW0,hF0,hFr0,hb0,hsz0⟩:=jfn w;have hh:=jl3 h0;have HD:=fun W=>pdigit s[0] W;have HWd:=fun W=>pword s[0] W;have h34:(((s[0]).toNat:Int)==34)=decide (s[0]=34):=je9 (n:=34) (by decide);(have hp1:(0:Int)<(s.size:Int):=by omega);obtain ⟨P,hP⟩:=jx (jmi false s.data.toList);rw[hP];have HW0:=jj hW0;have HF0:=jj hF0;have HR0:=jj hFr0;have HB0:=jj hb0;have HS0:=jj hsz0;clear hW0 hF0 hFr0 hb0;have hhd:s.data.toList.headD 0=s[0]:=by rw[hh];try rfl
  have store:∀(w3:World) (K:Int) (T:List UInt8) (N:Nat),P=(K,T,N)→Four w3 w.heap.size (.int .i64 0) (.string ⟨#[]⟩) (.int .i64 0) (.int .i64 0)→Below w.heap.size w w3 →
      Four (put4 w3 w.heap.size (.int .i64 K) (.string (bs T)) (.int .i64 0) (.int .i64 (N:Int))) w.heap.size (.int .i64 P.1) (.string (bs P.2.1)) (.int .i64 0) (.int .i64 (P.2.2:Int))∧Below w.heap.size w (put4 w3 w.heap.size (.int .i64 K) (.string (bs T)) (.int .i64 0) (.int .i64 (N:Int))):=by
    intro w3 K T N hPe hF hb;rw[hPe];exact ⟨jau hF _ _ _ _,jal hb (Nat.le_refl _)⟩
  have HSt:=jj store;clear store;by_cases hd:dgB s[0]=true
  · (have hPe:P=(3,jho s.data.toList,(jho s.data.toList).length):=by rw[←hP,preN_int (by rw[hhd];exact hd)]);have HC:=fun W=>jnh 103 dgB s W (by omega) run_digit pdigit;have hls:=lead_size dgB hs;obtain ⟨l,hl⟩:=jx (jho s.data.toList);rw[show s.data.toList.takeWhile dgB=l from hl] at HC hls;rw[hl] at hPe;rw[hd] at HD;obtain ⟨T,hT⟩:=jx (bs l);(have hTl:T.data.toList=l:=by rw[←hT,jac]);(have hTs:T.size=l.length:=by rw[←hT,jbs]);rw[hT] at HC;have HC:=jj HC;have HD:=jj HD;have HPe:=jj hPe;have HT:=jj hT;have HWh:=jj (fun W=>pwhole 3 T W);rw[hTl,hTs] at HWh;clear HWd h34 hP hh hhd hd hl hPe hT hTl hTs hls;go_enter Tryz.func57,Tryz.ntmps57;go_wp2_with fail;rw[HW0.out];(with_reducible refine (HD.out _).mono ?_);rintro e w1 ⟨rfl,rfl⟩;go_wp2_with fail;(with_reducible refine (HC.out _).mono ?_);rintro e w1 ⟨rfl,rfl⟩;go_wp2_with fail;(with_reducible refine (HWh.out _).mono ?_);rintro e w1 ⟨rfl,hb1⟩;dsimp only;have hF1:=HF0.out.keep hb1;have hR1:=HR0.out.at_ hb1 HF0.out.1;have hB1:=HB0.out.trans (hb1.mono HB0.out.size);have HQ:=jj (HSt.out w1 3 l l.length HPe.out hF1 hB1);obtain ⟨⟨-,f0,f1,f2,f3⟩,g0,g1,g2,g3⟩:=And.intro hF1 hR1;clear hF1 hR1 hB1 hb1;go_wp2;exact bodyPost_ret (jh2 rfl _ _ w.heap.size _ _ _ _ rfl HQ.out.1) rfl ⟨rfl,HQ.out.2⟩
  · (have hd0:dgB s[0]=false:=by simpa using hd);rw[hd0] at HD;have HD:=jj HD;by_cases hw:wdB s[0]=true
    · (have hPe:P=(1,jbl s.data.toList,(jbl s.data.toList).length):=by rw[←hP,preN_word (by rw[hhd];exact wd_lt hw hd0)]);have HC:=fun W=>jnh 106 wdB s W (by omega) run_word pword;have hls:=lead_size wdB hs;obtain ⟨l,hl⟩:=jx (jbl s.data.toList);rw[show s.data.toList.takeWhile wdB=l from hl] at HC hls;rw[hl] at hPe;rw[hw] at HWd;obtain ⟨T,hT⟩:=jx (bs l);(have hTl:T.data.toList=l:=by rw[←hT,jac]);(have hTs:T.size=l.length:=by rw[←hT,jbs]);rw[hT] at HC;have HC:=jj HC;have HWd:=jj HWd;have HPe:=jj hPe;have HWh:=jj (fun W=>pwhole 1 T W);rw[hTl,hTs] at HWh;clear h34 hP hh hhd hd hd0 hw hl hPe hT hTl hTs hls;go_enter Tryz.func57,Tryz.ntmps57;go_wp2_with fail;rw[HW0.out];(with_reducible refine (HD.out _).mono ?_);rintro e w1 ⟨rfl,rfl⟩;go_wp2_with fail;(with_reducible refine (HWd.out _).mono ?_);rintro e w1 ⟨rfl,rfl⟩;go_wp2_with fail;(with_reducible refine (HC.out _).mono ?_);rintro e w1 ⟨rfl,rfl⟩;go_wp2_with fail;(with_reducible refine (HWh.out _).mono ?_);rintro e w1 ⟨rfl,hb1⟩;dsimp only;have hF1:=HF0.out.keep hb1;have hR1:=HR0.out.at_ hb1 HF0.out.1;have hB1:=HB0.out.trans (hb1.mono HB0.out.size);have HQ:=jj (HSt.out w1 1 l l.length HPe.out hF1 hB1);obtain ⟨⟨-,f0,f1,f2,f3⟩,g0,g1,g2,g3⟩:=And.intro hF1 hR1;clear hF1 hR1 hB1 hb1;go_wp2;exact bodyPost_ret (jh2 rfl _ _ w.heap.size _ _ _ _ rfl HQ.out.1) rfl ⟨rfl,HQ.out.2⟩
    · have hw0:wdB s[0]=false:=by simpa using hw
      have hl0:ltB s[0]=false:=by
        cases hl:ltB s[0] with
        | false=>rfl
        | true=>rw[lt_wd hl] at hw0;cases hw0
      rw[hw0] at HWd;have HWd:=jj HWd;by_cases h3:s[0]=34
      · rw[decide_eq_true h3] at h34;(have hPe:P=litK (s.data.toList.drop 1):=by rw[←hP,hh,h3,preN_lit];rfl);have HC:=jj (fun W=>pliteral s h0 hs W);rw[←hPe] at HC;clear hP hh hhd hd hd0 hw hw0 hl0 h3 hPe;go_enter Tryz.func57,Tryz.ntmps57;go_wp2_with fail;rw[HW0.out];(with_reducible refine (HD.out _).mono ?_);rintro e w1 ⟨rfl,rfl⟩;go_wp2_with fail;(with_reducible refine (HWd.out _).mono ?_);rintro e w1 ⟨rfl,rfl⟩;go_wp2_with fail;(with_reducible refine (HC.out _).mono ?_);rintro e w1 ⟨rfl,hb1⟩;have hF1:=HF0.out.keep hb1;have hR1:=HR0.out.at_ hb1 HF0.out.1;have hB1:=HB0.out.trans (hb1.mono HB0.out.size);have HQ:=jj (HSt.out w1 P.1 P.2.1 P.2.2 rfl hF1 hB1);obtain ⟨⟨-,f0,f1,f2,f3⟩,g0,g1,g2,g3⟩:=And.intro hF1 hR1;clear hF1 hR1 hB1 hb1;go_wp2;exact bodyPost_ret (jh2 rfl _ _ w.heap.size _ _ _ _ rfl HQ.out.1) rfl ⟨rfl,HQ.out.2⟩
      · rw[decide_eq_false h3] at h34;(have hPe:P=(5,jmm s.data.toList,(jmm s.data.toList).length):=by rw[←hP,hh,preN_mark hd0 hl0 h3 (by simp)]);have HC:=fun W=>pmark s h0 hs W;obtain ⟨l,hl⟩:=jx (jmm s.data.toList);rw[hl] at hPe HC;obtain ⟨T,hT⟩:=jx (bs l);(have hTl:T.data.toList=l:=by rw[←hT,jac]);(have hTs:T.size=l.length:=by rw[←hT,jbs]);rw[hT] at HC;have HC:=jj HC;have HPe:=jj hPe;have HWh:=jj (fun W=>pwhole 5 T W);rw[hTl,hTs] at HWh;clear hP hh hhd hd hd0 hw hw0 hl0 h3 hl hPe hT hTl hTs;go_enter Tryz.func57,Tryz.ntmps57;go_wp2_with fail;rw[HW0.out];(with_reducible refine (HD.out _).mono ?_);rintro e w1 ⟨rfl,rfl⟩;go_wp2_with fail;(with_reducible refine (HWd.out _).mono ?_);rintro e w1 ⟨rfl,rfl⟩;go_wp2_with fail;(with_reducible refine (HC.out _).mono ?_);rintro e w1 ⟨rfl,rfl⟩;go_wp2_with fail;(with_reducible refine (HWh.out _).mono ?_);rintro e w1 ⟨rfl,hb1⟩;dsimp only;have hF1:=HF0.out.keep hb1;have hR1:=HR0.out.at_ hb1 HF0.out.1;have hB1:=HB0.out.trans (hb1.mono HB0.out.size);have HQ:=jj (HSt.out w1 5 l l.length HPe.out hF1 hB1);obtain ⟨⟨-,f0,f1,f2,f3⟩,g0,g1,g2,g3⟩:=And.intro hF1 hR1;clear hF1 hR1 hB1 hb1;go_wp2;exact bodyPost_ret (jh2 rfl _ _ w.heap.size _ _ _ _ rfl HQ.out.1) rfl ⟨rfl,HQ.out.2⟩
theorem pre1 (a:UInt8) (l:List UInt8):Lib.hasPrefix l [a]=match l with | x :: _=>decide (x=a) | _=>false:=by
  unfold Lib.hasPrefix
  match l with
  | []=>rfl
  | x :: r =>
    simp only[List.isPrefixOf,Bool.and_true];rw[Bool.eq_iff_iff,beq_iff_eq,decide_eq_true_eq];exact eq_comm
theorem ppattern (s:ByteArray) (h0:0<s.size) (hs:s.size≤2000000) (w:World):Calls Tryz.prog 73 #[.string s] w (GotK w (jmi true s.data.toList)):=by
  obtain ⟨W0,hW0,hF0,hFr0,hb0,hsz0⟩:=jfn w;have hh:=jl3 h0;have H2:=fun W=>Tryz.strings_HasPrefix s ⟨#[36,36]⟩ W;have H1:=fun W=>Tryz.strings_HasPrefix s ⟨#[36]⟩ W;rw[show (⟨#[36,36]⟩:ByteArray).data.toList=[36,36] from rfl] at H2;rw[show (⟨#[36]⟩:ByteArray).data.toList=[36] from rfl] at H1;obtain ⟨P,hP⟩:=jx (jmi true s.data.toList);rw[hP];have HW0:=jj hW0;have HF0:=jj hF0;have HR0:=jj hFr0;have HB0:=jj hb0;clear hW0 hF0 hFr0 hb0 hsz0
  have store:∀(w3:World) (K:Int) (T:List UInt8) (N:Nat),P=(K,T,N)→Four w3 w.heap.size (.int .i64 0) (.string ⟨#[]⟩) (.int .i64 0) (.int .i64 0)→Below w.heap.size w w3 →
      Four (put4 w3 w.heap.size (.int .i64 K) (.string (bs T)) (.int .i64 0) (.int .i64 (N:Int))) w.heap.size (.int .i64 P.1) (.string (bs P.2.1)) (.int .i64 0) (.int .i64 (P.2.2:Int))∧Below w.heap.size w (put4 w3 w.heap.size (.int .i64 K) (.string (bs T)) (.int .i64 0) (.int .i64 (N:Int))):=by
    intro w3 K T N hPe hF hb;rw[hPe];exact ⟨jau hF _ _ _ _,jal hb (Nat.le_refl _)⟩
  have HSt:=jj store;clear store;by_cases h36:s[0]=36
  · by_cases hm:(s.data.toList.drop 1).headD 0=36
    · obtain ⟨x,hx⟩:∃x,s.data.toList.drop 1=36 :: x:=by
        cases hr:s.data.toList.drop 1 with
        | nil=>rw[hr] at hm;exact absurd hm (by decide)
        | cons y x =>
          rw[hr] at hm;have hm:y=36:=hm;exact ⟨x,by rw[hm]⟩
      have hlen:s.size=x.length+2:=by
        have:=congrArg List.length hh;rw[hx,size_list] at this;simpa using this
      (have hl:s.data.toList=36 :: 36 :: x:=by rw[hh,hx,h36]);have HC:=fun W=>pvariable 7 ⟨#[36,36]⟩ s (by show 2≤s.size;omega) hs W;rw[show (⟨#[36,36]⟩:ByteArray).size=2 from rfl,hl] at HC;(have hPe:P=(7,jbl x,2+(jbl x).length):=by rw[←hP,hl,preN_many]);rw[show (36 :: 36 :: x).drop 2=x from rfl,←hPe] at HC;have HC:=jj HC;rw[show Lib.hasPrefix s.data.toList [36,36]=true by rw[hl];rfl] at H2;have H2:=jj H2;clear H1 hP hh hx hlen hl hPe h36 hm;go_enter Tryz.func73,Tryz.ntmps73;go_wp2_with fail;rw[HW0.out];(with_reducible refine (H2.out _).mono ?_);rintro e w1 ⟨rfl,rfl⟩;go_wp2_with fail;(with_reducible refine (HC.out _).mono ?_);rintro e w1 ⟨rfl,hb1⟩;have hF1:=HF0.out.keep hb1;have hR1:=HR0.out.at_ hb1 HF0.out.1;have hB1:=HB0.out.trans (hb1.mono HB0.out.size);have HQ:=jj (HSt.out w1 P.1 P.2.1 P.2.2 rfl hF1 hB1);obtain ⟨⟨-,f0,f1,f2,f3⟩,g0,g1,g2,g3⟩:=And.intro hF1 hR1;clear hF1 hR1 hB1 hb1;go_wp2;exact bodyPost_ret (jh2 rfl _ _ w.heap.size _ _ _ _ rfl HQ.out.1) rfl ⟨rfl,HQ.out.2⟩
    · (have hl:s.data.toList=36 :: s.data.toList.drop 1:=by rw[←h36];exact hh);have HC:=fun W=>pvariable 6 ⟨#[36]⟩ s (by show 1≤s.size;omega) hs W;rw[show (⟨#[36]⟩:ByteArray).size=1 from rfl] at HC;(have hPe:P=(6,jbl (s.data.toList.drop 1),1+(jbl (s.data.toList.drop 1)).length):=by rw[←hP,hl,preN_meta _ hm];rfl);rw[←hPe] at HC;have HC:=jj HC
      have hbf:Lib.hasPrefix s.data.toList [36,36]=false:=by
        rw[hl,pre2]
        cases hr:s.data.toList.drop 1 with
        | nil=>rfl
        | cons y x =>
          rw[hr] at hm;have hm:¬y=36:=hm;simp[hm]
      rw[hbf] at H2;rw[show Lib.hasPrefix s.data.toList [36]=true by rw[hl];rfl] at H1;have H1:=jj H1;have H2:=jj H2;clear hP hh hl hPe h36 hm hbf;go_enter Tryz.func73,Tryz.ntmps73;go_wp2_with fail;rw[HW0.out];(with_reducible refine (H2.out _).mono ?_);rintro e w1 ⟨rfl,rfl⟩;go_wp2_with fail;(with_reducible refine (H1.out _).mono ?_);rintro e w1 ⟨rfl,rfl⟩;go_wp2_with fail;(with_reducible refine (HC.out _).mono ?_);rintro e w1 ⟨rfl,hb1⟩;have hF1:=HF0.out.keep hb1;have hR1:=HR0.out.at_ hb1 HF0.out.1;have hB1:=HB0.out.trans (hb1.mono HB0.out.size);have HQ:=jj (HSt.out w1 P.1 P.2.1 P.2.2 rfl hF1 hB1);obtain ⟨⟨-,f0,f1,f2,f3⟩,g0,g1,g2,g3⟩:=And.intro hF1 hR1;clear hF1 hR1 hB1 hb1;go_wp2;exact bodyPost_ret (jh2 rfl _ _ w.heap.size _ _ _ _ rfl HQ.out.1) rfl ⟨rfl,HQ.out.2⟩
  · have HC:=fun W=>psource s h0 hs W;(have hPe:P=jmi false s.data.toList:=by rw[←hP,hh,preN_sign (fun h=>h36 h.2)]);rw[←hPe] at HC;have HC:=jj HC
    have hbf:Lib.hasPrefix s.data.toList [36,36]=false:=by
      rw[hh,pre2]
      cases s.data.toList.drop 1 with
      | nil=>rfl
      | cons y x=>simp[h36]
    have hbf1:Lib.hasPrefix s.data.toList [36]=false:=by
      rw[hh,pre1];exact decide_eq_false h36
    rw[hbf] at H2;rw[hbf1] at H1;have H1:=jj H1;have H2:=jj H2;clear hP hh hPe h36 hbf hbf1;go_enter Tryz.func73,Tryz.ntmps73;go_wp2_with fail;rw[HW0.out];(with_reducible refine (H2.out _).mono ?_);rintro e w1 ⟨rfl,rfl⟩;go_wp2_with fail;(with_reducible refine (H1.out _).mono ?_);rintro e w1 ⟨rfl,rfl⟩;go_wp2_with fail;(with_reducible refine (HC.out _).mono ?_);rintro e w1 ⟨rfl,hb1⟩;have hF1:=HF0.out.keep hb1;have hR1:=HR0.out.at_ hb1 HF0.out.1;have hB1:=HB0.out.trans (hb1.mono HB0.out.size);have HQ:=jj (HSt.out w1 P.1 P.2.1 P.2.2 rfl hF1 hB1);obtain ⟨⟨-,f0,f1,f2,f3⟩,g0,g1,g2,g3⟩:=And.intro hF1 hR1;clear hF1 hR1 hB1 hb1;go_wp2;exact bodyPost_ret (jh2 rfl _ _ w.heap.size _ _ _ _ rfl HQ.out.1) rfl ⟨rfl,HQ.out.2⟩
end
end Go.Proofs.YtonoklmobocikaaGreatDoor
