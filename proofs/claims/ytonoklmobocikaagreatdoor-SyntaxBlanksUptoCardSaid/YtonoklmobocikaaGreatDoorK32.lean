/- Lemmas. -/
import Derived.Deep.RegionHeld
import Derived.Test.YtonoklmobocikaaGreatDoorRows
import Derived.ProofKit
import Derived.OpenShut
import Derived.Test.YtonoklmobocikaaGreatDoorK31
set_option linter.unusedVariables false
set_option linter.unusedSimpArgs false
set_option maxRecDepth 20000
set_option maxHeartbeats 6400000
namespace Go.Proofs.YtonoklmobocikaaGreatDoor
section
theorem tw_tw {p:UInt8→Bool} (l:List UInt8):(l.takeWhile p).takeWhile p=l.takeWhile p:=by
  have:=tw_app (p:=p) (l.takeWhile p) [] (tw_all l) (fun c h=>by simp at h);simpa using this
theorem tw_stop {p:UInt8→Bool} (l e:List UInt8) (c:UInt8) (hc:p c=false):(l++c :: e).takeWhile p=l.takeWhile p:=by
  induction l with
  | nil=>simp[List.takeWhile,hc]
  | cons a l ih =>
    simp only[List.cons_append,List.takeWhile,ih]
theorem Bare.take {r:List UInt8} (h:Bare r) (n:Nat):Bare (r.take n):=by
  intro c x e
  cases r with
  | nil=>simp at e
  | cons a r =>
    cases n with
    | zero=>simp at e
    | succ n =>
      simp only[List.take_succ_cons,List.cons.injEq] at e;obtain ⟨rfl,rfl⟩:=e;obtain ⟨h1,h2⟩:=h a r rfl;refine ⟨h1,fun ⟨h3,h4⟩=>h2 ⟨h3,?_⟩⟩
      cases n with
      | zero=>simp at h4
      | succ n =>
        cases r with
        | nil=>simp at h4
        | cons b r=>simpa using h4
theorem jls:∀(k:Nat) (r:List UInt8),r.length≤k→∀t n,jf2 r=some (t,n)→∀e,jf2 (r.take n++e)=some (t,n):=by
  intro k
  induction k with
  | zero =>
    intro r h t n e
    cases r with
    | nil=>cases e
    | cons c r=>simp at h
  | succ k ih =>
    intro r h t n e z
    cases r with
    | nil=>cases e
    | cons c r =>
      simp only[List.length_cons] at h;unfold jf2 at e;split at e
      · rename_i hc;injection e with e;injection e with e1 e2;subst e1;subst e2;rw[hc];exact jno _
      · rename_i hc;split at e
        · rename_i hc2
          cases r with
          | nil=>cases e
          | cons b r =>
            simp only[List.length_cons] at h;dsimp only at e;split at e
            · rename_i hb;rw[Option.map_eq_some_iff] at e;obtain ⟨⟨t1,n1⟩,e1,e2⟩:=e;have:=ih r (by omega) t1 n1 e1 z;injection e2 with e2 e3;subst e2;subst e3;simp only[List.take_succ_cons,List.cons_append];unfold jf2;rw[if_neg hc,if_pos hc2];dsimp only;rw[if_pos hb,this];try rfl
            · rename_i hb;split at e
              · rename_i hb2;rw[Option.map_eq_some_iff] at e;obtain ⟨⟨t1,n1⟩,e1,e2⟩:=e;have:=ih r (by omega) t1 n1 e1 z;injection e2 with e2 e3;subst e2;subst e3;simp only[List.take_succ_cons,List.cons_append];unfold jf2;rw[if_neg hc,if_pos hc2];dsimp only;rw[if_neg hb,if_pos hb2,this];try rfl
              · cases e
        · rename_i hc2;split at e
          · rename_i hv;rw[Option.map_eq_some_iff] at e;obtain ⟨⟨t1,n1⟩,e1,e2⟩:=e;have:=ih r (by omega) t1 n1 e1 z;injection e2 with e2 e3;subst e2;subst e3;simp only[List.take_succ_cons,List.cons_append];unfold jf2;rw[if_neg hc,if_neg hc2,if_pos hv,this];try rfl
          · cases e
end
section
theorem mk_feed (c:UInt8):jim [c,10]=false:=by
  cases h:jim [c,10] with
  | false=>rfl
  | true =>
    have:=mem_mk h;simp[mkL] at this
theorem jij {t:List UInt8} (h:jjk t=true):∃c x,t=c :: x∧ltB c=true∧t.all wdB=true∧jjm t=false:=by
  unfold jjk at h;simp only[Bool.and_eq_true,Bool.not_eq_true'] at h;obtain ⟨⟨⟨h1,h2⟩,h3⟩,h4⟩:=h
  cases t with
  | nil=>simp at h1
  | cons c x =>
    simp only[List.all_cons,Bool.and_eq_true] at h3;exact ⟨c,x,rfl,wd_lt h3.1 h2,by simp only[List.all_cons,h3.1,h3.2,Bool.and_true],h4⟩
theorem pre_more {pat:Bool} {r:List UInt8} (hr:r≠[]) (h:jcd (jcy pat r).1 (jcy pat r).2.1=0) (e:List UInt8) (he:e=[]∨∃x,e=10 :: x) :
    jcy pat (r.take (jcy pat r).2.2++e)=jcy pat r:=by
  have hw:∀l:List UInt8,jbl (l++e)=jbl l:=by
    intro l;rcases he with rfl | ⟨x,rfl⟩
    · rw[List.append_nil]
    · exact tw_stop l x 10 (by decide)
  have hi:∀l:List UInt8,jho (l++e)=jho l:=by
    intro l;rcases he with rfl | ⟨x,rfl⟩
    · rw[List.append_nil]
    · exact tw_stop l x 10 (by decide)
  cases r with
  | nil=>exact absurd rfl hr
  | cons c x =>
    rcases jhk pat c with h1 | h1 | h1 | h1 | ⟨h1,h2,h3,h4⟩
    · have e1:=jf9 (pat:=pat) (r:=c :: x) h1;obtain ⟨_,_,e,e2⟩:=int_ne (r:=c :: x) h1;cases e;rw[e1];dsimp only;have ht:(c :: x).take (jho (c :: x)).length=jho (c :: x):=jks _;rw[ht];have hh:jho (jho (c :: x)++_)=jho (c :: x):=(hi _).trans (tw_tw _);rw[jf9 (by rw[e2];exact h1),hh]
    · have e1:=jdr (pat:=pat) (r:=c :: x) h1;obtain ⟨_,_,e,e2⟩:=word_ne (r:=c :: x) h1;cases e;rw[e1];dsimp only;have ht:(c :: x).take (jbl (c :: x)).length=jbl (c :: x):=jks _;rw[ht];have hh:jbl (jbl (c :: x)++_)=jbl (c :: x):=(hw _).trans (tw_tw _);rw[jdr (by rw[e2];exact h1),hh]
    · subst h1;rw[jeq] at h ⊢
      cases hl:jf2 x with
      | none=>rw[hl] at h;exact absurd h (by decide)
      | some y =>
        dsimp only;rw[List.take_succ_cons,List.cons_append,jeq,jls _ x (Nat.le_refl _) y.1 y.2 hl]
    · obtain ⟨rfl,rfl⟩:=h1;by_cases hm:x.headD 0=36
      · cases x with
        | nil=>exact absurd hm (by decide)
        | cons y x =>
          have hy:y=36:=hm;subst hy;rw[jg9];dsimp only;rw[show 2+(jbl x).length=(jbl x).length+1+1 by omega,List.take_succ_cons,List.take_succ_cons,List.cons_append,List.cons_append,jg9];have ht:x.take (jbl x).length=jbl x:=jks _;rw[ht,hw,show jbl (jbl x)=jbl x from tw_tw _];congr 2;omega
      · rw[jg8 x hm] at h ⊢;dsimp only at h ⊢;have hf:=(jfy (jlm h)).1;rw[form6] at hf;obtain ⟨a,b,hab,ha,_,_⟩:=jij hf;have ht:x.take (jbl x).length=jbl x:=jks _
        rw[show 1+(jbl x).length=(jbl x).length+1 by omega,List.take_succ_cons,List.cons_append,ht,jg8 _ (by
          rw[hab];intro e;have e:a=36:=e;subst e
          exact absurd ha (by decide)),hw,show jbl (jbl x)=jbl x from tw_tw _]
        congr 2;omega
    · rw[jds h1 h2 h3 h4] at h ⊢;by_cases hm:2≤(c :: x).length∧jim ((c :: x).take 2)=true
      · rw[if_pos hm] at h ⊢
        cases x with
        | nil=>simp at hm
        | cons y x =>
          show jcy pat (c :: y :: e)=_;rw[jds h1 h2 h3 h4,if_pos ⟨by simp,by simpa using hm.2⟩];try rfl
      · rw[if_neg hm] at h ⊢;show jcy pat (c :: e)=_;rw[jds h1 h2 h3 h4];rcases he with rfl | ⟨z,rfl⟩
        · rw[if_neg (by simp)];try rfl
        · rw[if_neg (by
            rintro ⟨_,h⟩;(have h:jim [c,10]=true:=by simpa using h);rw[mk_feed] at h
            cases h)]
          rfl
end
section
theorem jjr {k:Nat} {pat:Bool} {D n:Nat} {c:UInt8} {r:List UInt8} {l:List Tk} (h:jea (k+1) pat D n (c :: r)=.ok l) :
    jgj pat (c :: r)=0∧n<600∧∃m,jea k pat D (n+1) (skS ((c :: r).drop (jcy pat (c :: r)).2.2))=.ok m ∧
      l=⟨(jcy pat (c :: r)).1,(jcy pat (c :: r)).2.1,((D - (r.length+1):Nat):Int),((D - (r.length+1)+(jcy pat (c :: r)).2.2:Nat):Int)⟩ :: m:=by
  by_cases he:jgj pat (c :: r)=0
  · by_cases hn:n<600
    · refine ⟨he,hn,?_⟩;rw[ji4 he hn] at h
      cases hs:jea k pat D (n+1) (skS ((c :: r).drop (jcy pat (c :: r)).2.2)) with
      | error e=>rw[hs] at h;cases h
      | ok m =>
        rw[hs] at h;injection h with h;exact ⟨m,rfl,h.symm⟩
    · rw[jjs he (by omega)] at h;cases h
  · rw[jkh he] at h;cases h
theorem scan_fuel:∀(k k':Nat) (pat:Bool) (D n:Nat) (r:List UInt8),r.length<k→r.length<k'→jea k pat D n r=jea k' pat D n r:=by
  intro k
  induction k with
  | zero=>intro k' pat D n r h;omega
  | succ k ih =>
    intro k' pat D n r h h'
    cases k' with
    | zero=>omega
    | succ k' =>
      cases r with
      | nil=>rfl
      | cons c r =>
        by_cases he:jgj pat (c :: r)=0
        · by_cases hn:n<600
          · rw[ji4 he hn,ji4 he hn];have:=jke he;simp only[List.length_cons] at h h';rw[ih k' pat D (n+1) _ (by omega) (by omega)]
          · rw[jjs he (by omega),jjs he (by omega)]
        · rw[jkh he,jkh he]
def PlacesS (d:List UInt8):Nat→List Tk→Prop
  | z,[]=>jcx false (d.drop z)=.ok []
  | z,t :: l=>∃a b:Nat,t.at_=(a:Int)∧t.en=(b:Int)∧z≤a∧a<b∧b≤d.length∧jcx false ((d.drop z).take (a - z))=.ok [] ∧
      jcx false ((d.drop a).take (b - a))=.ok [⟨t.kind,t.text,0,((b - a:Nat):Int)⟩]∧PlacesS d b l
theorem scanS_none {pat:Bool} {d:List UInt8} (h:skS d=[]):jcx pat d=.ok []:=by
  unfold jcx;rw[h];try rfl
theorem scanS_own {r:List UInt8} (hr:r≠[]) (hb:Bare r) (h:jgj false r=0) :
    jcx false (r.take (jcy false r).2.2)=.ok [⟨(jcy false r).1,(jcy false r).2.1,0,((jcy false r).2.2:Int)⟩]:=by
  obtain ⟨h1,h2⟩:=jia hr h;have hp:=pre_more (pat:=false) hr h [] (Or.inl rfl);rw[List.append_nil] at hp;unfold jcx;rw[(hb.take _).sk];(have hlen:(r.take (jcy false r).2.2).length=(jcy false r).2.2:=by rw[List.length_take];omega);obtain ⟨n,hn⟩:=jx ((jcy false r).2.2);rw[hn] at hlen hp h1 ⊢
  cases hq:r.take n with
  | nil=>rw[hq] at hlen;simp at hlen;omega
  | cons c x =>
    rw[hq] at hlen hp;(have he:jgj false (c :: x)=0:=by unfold jgj;rw[hp];exact h);rw[ji4 he (by omega),hp,hn,←hlen,List.drop_length];have:skS ([]:List UInt8)=[]:=rfl;rw[this,jez];simp
theorem places:∀(k:Nat) (n:Nat) (d r:List UInt8) (z:Nat) (l:List Tk),r.length<k→z≤d.length→skS (d.drop z)=r→jea k false d.length n r=.ok l→PlacesS d z l:=by
  intro k
  induction k with
  | zero=>intro n d r z l h;omega
  | succ k ih =>
    intro n d r z l hk hz hsk hs;obtain ⟨g,hg,hg0⟩:=skB_gap (d.drop z) false;rw[show skB false (d.drop z)=r from hsk] at hg
    cases r with
    | nil =>
      rw[jez] at hs;injection hs with hs;subst hs;exact scanS_none hsk
    | cons c r =>
      obtain ⟨he,hn,m,hm,rfl⟩:=jjr hs;obtain ⟨h1,h2⟩:=jia (by simp) he;have hb:Bare (c :: r):=by rw[←hsk];exact jfr _ _
      have hlen:d.length=z+(g.length+(r.length+1)):=by
        have:=congrArg List.length hg;rw[List.length_drop,List.length_append,List.length_cons] at this;omega
      have ha:d.length - (r.length+1)=z+g.length:=by omega
      have hda:d.drop (z+g.length)=c :: r:=by
        rw[←List.drop_drop,hg,List.drop_append,List.drop_length,Nat.sub_self,List.drop_zero,List.nil_append]
      simp only[List.length_cons] at hk h2;refine ⟨z+g.length,z+g.length+(jcy false (c :: r)).2.2,by rw[ha],by rw[ha],by omega,by omega,by omega,?_,?_,?_⟩
      · rw[show z+g.length - z=g.length by omega,hg,List.take_append,List.take_length,Nat.sub_self,List.take_zero,List.append_nil];exact scanS_none hg0
      · rw[hda,show z+g.length+(jcy false (c :: r)).2.2 - (z+g.length)=(jcy false (c :: r)).2.2 by omega];exact scanS_own (by simp) hb he
      · have hl:=jke he;refine ih (n+1) d _ _ m (by omega) (by omega) ?_ hm;rw[←List.drop_drop,hda]
end
section
open Go.RowKit
open Go.Lib (byteCells strCells)
open Go.ChangeShapes (block_add)
open Go.Deep (add_add)
theorem Far.trans {a b c:World} {u v x:Value} (h:Far a b u v) (k:Far b c v x):Far a c u x :=
  ⟨Nat.le_trans h.1 k.1,fun g hg hu=>by
    obtain ⟨h1,h2⟩:=h.2 g hg hu
    obtain ⟨k1,k2⟩:=k.2 g (Nat.lt_of_lt_of_le hg h.1) h2
    exact ⟨k1.trans h1,k2⟩⟩
end
section
open Go.RowKit
theorem rsize:∀(f:Nat) (n:Nd) (W:World) (v:Value),sizeN n≤f→sizeN n≤1000000000→NdV W (fun _=>True) v n →
    Calls Tryz.prog 21 #[v] W fun e w'=>e=.returned (.int .i64 (sizeN n:Int))∧Below W.heap.size W w':=by
  intro f
  induction f with
  | zero=>intro n W v h;cases n;rw[sizeN] at h;omega
  | succ f ih =>
    intro n W v hf h9 hv
    cases hv with
    | mk k a e x B m d vs l hvs hlen hr =>
      have HR:=jj hr;have HV:=jj hvs;have Hl:=jj hlen;have hmd:=hvs.1;have hdd:=hvs.2.1;rw[sizeN] at hf h9;have HS:=jj (show sizeN (.mk k x a e l)=ja8 l+1 by rw[sizeN]);have HB:=jj (jak (Below.refl W.heap.size W) (.cells #[.int .i64 k,.string (bs x),.int .i64 a,.int .i64 e,.slice B m d] 25));have HF:=jj (ja6 W (.int .i64 k) (.string (bs x)) (.int .i64 a) (.int .i64 e) (.slice B m d) 25);have IH:=jj ih;clear hr hvs hlen ih;go_enter Tryz.func21,Tryz.ntmps21;go_wp2_with fail;generalize hW1:W.alloc (.cells #[.int .i64 k,.string (bs x),.int .i64 a,.int .i64 e,.slice B m d] 25)=w1 at HB HF ⊢;clear hW1
      go_loopw [3,4] (fun u y wr=>∃i:Nat,i≤m∧u=.int .i64 ((ja8 (l.take i)+1:Nat):Int)∧y=.int .i64 (i:Int)∧Below w1.heap.size w1 wr) (fun _ y _=>m - (intOf y).toNat)
      case atStart=>exact ⟨0,Nat.zero_le _,rfl,rfl,Below.refl _ _⟩
      case round =>
        obtain ⟨i,hi,rfl,rfl,hb⟩:=hrel;rename_i wr _;obtain ⟨-,-,-,-,-,f4⟩:=HF.out.keep hb;have hbw:=bgo HB.out hb;by_cases hlt:i<m
        · (have hki:(i:Int)<(m:Int):=by omega);obtain ⟨g,o,c0,c1,c2,c3,c4,rfl,hvi,x0,x1,x2,x3,x4⟩:=(HV.out.below hbw).at_ hlt;obtain ⟨y,hy⟩:∃y,l[i]?=some y:=⟨_,List.getElem?_eq_getElem (by rw[Hl.out];exact hlt)⟩;obtain ⟨s1,s2⟩:=jdj hy;obtain ⟨Z,hZ⟩:=jx (ja8 (l.take i)+1);obtain ⟨Y,hY⟩:=jx (sizeN y);have HC:=jj (IH.out y wr _ (by omega) (by omega) ((HR.out i _ y hvi hy).kept hbw));rw[hY] at HC s1 s2;rw[hZ];have HC:=jj HC.out;have Hs:=jj (show ((Z:Int)+(Y:Int))=((ja8 (l.take (i+1))+1:Nat):Int) by omega);(have hZY:Z+Y≤1000000000:=by omega);have Hb:=jj hb;clear hvi hy s1 s2 hZ hY hb hbw hf h9;go_wp2_with fail;(with_reducible refine HC.out.mono ?_);rintro e2 w2 ⟨rfl,hb2⟩;have Hb2:=jj (bgo Hb.out hb2);clear hb2 x0 x1 x2 x3 x4 f4;go_wp2;go_roundw
          case rel=>exact ⟨i+1,by omega,by rw[Hs.out],by go_num,Hb2.out⟩
          case measure=>simp[intOf];omega
        · (have hki:¬(i:Int)<(m:Int):=by omega);have Hz:=jj (show ((ja8 (l.take i)+1:Nat):Int)=(sizeN (.mk k x a e l):Int) by rw[List.take_of_length_le (by rw[Hl.out];omega),HS.out]);obtain ⟨Z,hZ⟩:=jx (ja8 (l.take i)+1);rw[hZ] at Hz ⊢;have Hb:=jj hbw;clear hb hbw hZ;go_wp2;go_ret;exact ⟨congrArg (fun z=>Ending.returned (.int .i64 z)) Hz.out,Hb.out⟩
end
section
section
variable (T:List Tk)
def kAt (i:Nat):Int:=match T[i]? with | none=>0 | some t=>t.kind
def atT (i:Nat):Int:=match T[i]? with | none=>0 | some t=>t.at_
def enT (i:Nat):Int:=match T[i]? with | none=>0 | some t=>t.en
def jc2 (i:Nat):Int:=if i=0 then 0 else enT T (i - 1)
def nd (k:Int) (x:List UInt8) (i:Nat) (kids:List Nd) (j:Nat):Nd:=.mk k x (atT T i) (jc2 T j) kids
end
end
section
open Go.RowKit
theorem nodesL_app (l r:List Nd):jc7 (l++r)=jc7 l++jc7 r:=by
  induction l with
  | nil=>rw[jc7];rfl
  | cons n l ih=>rw[List.cons_append,jc7,jc7,ih,List.append_assoc]
theorem nodesL_take {l:List Nd} {i:Nat} {y:Nd} (h:l[i]?=some y):jc7 (l.take (i+1))=jc7 (l.take i)++jca y:=by
  obtain ⟨h1,e⟩:=List.getElem?_eq_some_iff.1 h;rw[List.take_succ_eq_append_getElem h1,e,nodesL_app,jc7,jc7,List.append_nil]
end
section
open Go.RowKit
theorem Far.alloc (a:World) (v:Value) (o:Obj):Far a (a.alloc o) v v :=
  ⟨by simp,fun g hg hne=>⟨(jak (Below.refl _ a) o).block g hg,hne⟩⟩
theorem FiveN.far {w w':World} {b:Nat} {c0 c1 c2 c3 c4 u v:Value} (h:FiveN w b c0 c1 c2 c3 c4) (hf:Far w w' u v) (hne:u.ownBlock≠some b):FiveN w' b c0 c1 c2 c3 c4:=by
  obtain ⟨h0,h1,h2,h3,h4,h5⟩:=h;have key:∀k:Nat,w'.cell? ⟨b,k,none⟩=w.cell? ⟨b,k,none⟩:=fun k=>World.cell?_of_block (w:=w) (hf.2 b h0 hne).1;exact ⟨Nat.lt_of_lt_of_le h0 hf.1,(key _).trans h1,(key _).trans h2,(key _).trans h3,(key _).trans h4,(key _).trans h5⟩
theorem ppreorder:∀(f:Nat) (n:Nd) (W:World) (B0:Nat) (q:Nat→Prop) (A0:Option Addr) (m0 d0:Nat) (acc:List Nd) (v:Value),sizeN n≤f→acc.length+sizeN n≤1000000000→(∀g,q g→g<B0)→B0≤W.heap.size→OwnQ W B0 q (.slice A0 m0 d0) acc→NdV W q v n →
    Calls Tryz.prog 50 #[.slice A0 m0 d0,v] W fun e w'=>∃A m d,e=.returned (.slice A m d)∧OwnQ w' B0 q (.slice A m d) (acc++jca n)∧Below B0 W w'∧Far W w' (.slice A0 m0 d0) (.slice A m d):=by
  intro f;obtain ⟨i0,hi0,hz0,hz1,hz2⟩:=info_parts jfd
  induction f with
  | zero=>intro n W B0 q A0 m0 d0 acc v h;cases n;rw[sizeN] at h;omega
  | succ f ih =>
    intro n W B0 q A0 m0 d0 acc v hf h9 hq hB0 ho hv
    cases hv with
    | mk k a e x B m d vs l hvs hlen hr =>
    have hT:NdS W q B m d l:=⟨vs,hvs,hlen,hr⟩;have hmd:=hvs.1;have hdd:=hvs.2.1;rw[sizeN] at hf h9;have IH:=jj ih;have Hlen:=jj hlen;have HQ:=jj hq;have hb1:=jak (Below.refl W.heap.size W) (.cells #[.int .i64 k,.string (bs x),.int .i64 a,.int .i64 e,.slice B m d] 25);have hF:=ja6 W (.int .i64 k) (.string (bs x)) (.int .i64 a) (.int .i64 e) (.slice B m d) 25;have hfa:=Far.alloc W (.slice A0 m0 d0) (.cells #[.int .i64 k,.string (bs x),.int .i64 a,.int .i64 e,.slice B m d] 25);obtain ⟨w1,hw1⟩:=jx (W.alloc (.cells #[.int .i64 k,.string (bs x),.int .i64 a,.int .i64 e,.slice B m d] 25));rw[hw1] at hb1 hF hfa;have HO:=jj (ho.below hb1);have HT:=jj hT;have HF:=jj hF;have HB1:=jj (hb1.mono hB0);have HFa:=jj hfa;have HW1:=jj hw1;have HNo:=jj (show (Value.slice A0 m0 d0).ownBlock≠some W.heap.size from fun he=>by have:=(ho.base he).2;omega);have HZ:=jj (((hT.kept hb1).node k a e x).map (W':=w1) (ok':=fun g=>q g∧(Value.slice A0 m0 d0).ownBlock≠some g) (fun _ _ _=>rfl) (fun g hg _=>⟨hg,fun he=>by have:=(ho.base he).1;have:=HQ.out g hg;omega⟩));have HBs:=jj (show B0≤w1.heap.size by have:=hb1.size;omega);have HL9:=jj h9;clear hT hvs hlen hr ih hb1 hF hw1 ho hq hfa;obtain ⟨-,t0,t1,t2,t3,t4⟩:=HF.out;go_enter Tryz.func50,Tryz.ntmps50;go_upto_region 1 with fail;rw[HW1.out];go_wp2_with (at_builtin;refine je7 rfl (.tmp 7) (.tmp 9) 23 rfl i0 _ 64 Tryz.underlying23 hi0 hz0 hz1 hz2 rfl B0 q (.slice A0 m0 d0) acc rfl w1 _ _ _ _ _ (.mk k x a e l) HO.out HBs.out _ rfl rfl HZ.out (by have:=HL9.out;omega) (by have:=HL9.out;unfold maxLen;omega) ?_);intro v2 w2 ho2 b2 far2;obtain ⟨A2,m2,d2,vs2,rfl,-⟩:=ho2.s (fun _=>True) (fun _ _=>trivial) (fun _ _ _=>trivial);have O2:=jj ho2;have B2:=jj (HB1.out.trans b2);have Fa2:=jj (HFa.out.trans far2);have F2:=jj (HF.out.far far2 HNo.out);clear ho2 b2 far2 t0 t1 t2 t3 t4 HW1;obtain ⟨-,t0,t1,t2,t3,t4⟩:=F2.out;go_wp2_with fail;clear t0 t1 t2 t3 t4
    go_loopw [0,14] (fun z y wr=>∃i:Nat,i≤m∧y=.int .i64 (i:Int)∧OwnQ wr B0 q z (acc++(.mk k x a e l :: jc7 (l.take i)))∧Below B0 W wr∧Far W wr (.slice A0 m0 d0) z) (fun _ y _=>m - (intOf y).toNat)
    case atStart=>exact ⟨0,Nat.zero_le _,rfl,by rw[List.take_zero,jc7];exact O2.out,B2.out,Fa2.out⟩
    case round =>
      obtain ⟨i,hi,rfl,hoi,hb,hfar⟩:=hrel;obtain ⟨w3,hw3⟩:∃w3,w3=wr:=⟨wr,rfl⟩;subst hw3;obtain ⟨A3,m3,d3,vs3,rfl,-⟩:=hoi.s (fun _=>True) (fun _ _=>trivial) (fun _ _ _=>trivial);have O3:=jj hoi;have B3:=jj hb;have Fa3:=jj hfar;clear O2 B2 Fa2 F2;by_cases hlt:i<m
      · (have hki:(i:Int)<(m:Int):=by omega);obtain ⟨g,o,y,yA,ym,yd,rfl,hy,ry,x0,x1,x2,x3,x4⟩:=(HT.out.belowB HQ.out hb).at_ hlt;obtain ⟨s1,s2⟩:=jdj hy;have bk:=jak (Below.refl _ w3) (.cells #[.int .i64 y.kind,.string (bs y.text),.int .i64 y.at_,.int .i64 y.en,.slice yA ym yd] 25);have HC:=jj (IH.out y (w3.alloc (.cells #[.int .i64 y.kind,.string (bs y.text),.int .i64 y.at_,.int .i64 y.en,.slice yA ym yd] 25)) B0 q A3 m3 d3 _ _ (by omega) (by rw[List.length_append,List.length_cons,jkm];omega) HQ.out (by have:=hb.size;have:=bk.size;omega) (hoi.below bk) ((jb7 ry).kept bk));obtain ⟨-,t0,t1,t2,t3,t4⟩:=ja6 w3 (.int .i64 y.kind) (.string (bs y.text)) (.int .i64 y.at_) (.int .i64 y.en) (.slice yA ym yd) 25;have HNx:=jj (show (acc++(Nd.mk k x a e l :: jc7 (l.take i)))++jca y=acc++(.mk k x a e l :: jc7 (l.take (i+1))) by rw[nodesL_take hy,List.append_assoc];rfl);have Bk:=jj (B3.out.trans (bk.mono (by have:=hb.size;omega)));have Fk:=jj (Fa3.out.trans (Far.alloc w3 (.slice A3 m3 d3) (.cells #[.int .i64 y.kind,.string (bs y.text),.int .i64 y.at_,.int .i64 y.en,.slice yA ym yd] 25)));clear hy ry s1 s2 bk hoi hb hfar;go_wp2_with fail;(with_reducible refine HC.out.mono ?_);rintro e4 w4 ⟨A4,m4,d4,rfl,ho4,hb4,hf4⟩;rw[HNx.out] at ho4;have O4:=jj ho4;have B4:=jj (Bk.out.trans hb4);have Fa4:=jj (Fk.out.trans hf4);clear ho4 hb4 hf4 x0 x1 x2 x3 x4 t0 t1 t2 t3 t4;go_wp2;go_roundw
        case rel=>exact ⟨i+1,by omega,by go_num,O4.out,B4.out,Fa4.out⟩
        case measure=>simp[intOf];omega
      · (have hki:¬(i:Int)<(m:Int):=by omega);have HE:=jj (show acc++(Nd.mk k x a e l :: jc7 (l.take i))=acc++jca (.mk k x a e l) by rw[List.take_of_length_le (by rw[Hlen.out];omega),jca]);clear hoi hb hfar;go_wp2;go_ret;exact ⟨A3,m3,d3,rfl,by rw[←HE.out];exact O3.out,B3.out,Fa3.out⟩
theorem pNodes (n:Nd) (W:World) (ok:Nat→Prop) (v:Value) (h9:sizeN n≤1000000000) (hv:NdV W ok v n) :
    Calls Tryz.prog 25 #[v] W fun e w'=>∃A m d,e=.returned (.slice A m d)∧NdS w' (fun _=>True) A m d (jca n)∧Below W.heap.size W w':=by
  have hv0:=hv.map (ok':=fun g=>g<W.heap.size) (W':=W) (fun _ _ _=>rfl) (fun g _ hl=>hl)
  cases hv with
  | mk k a e x B m d vs l hvs hlen hr =>
  have hb1:=jak (Below.refl W.heap.size W) (.cells #[.int .i64 k,.string (bs x),.int .i64 a,.int .i64 e,.slice B m d] 25);have hF:=ja6 W (.int .i64 k) (.string (bs x)) (.int .i64 a) (.int .i64 e) (.slice B m d) 25;obtain ⟨w1,hw1⟩:=jx (W.alloc (.cells #[.int .i64 k,.string (bs x),.int .i64 a,.int .i64 e,.slice B m d] 25));rw[hw1] at hb1 hF;have HC:=jj (ppreorder (sizeN (.mk k x a e l)) (.mk k x a e l) w1 W.heap.size (fun g=>g<W.heap.size) none 0 0 [] _ (Nat.le_refl _) (by simpa using h9) (fun g h=>h) hb1.size (OwnQ.nil _ _ _) (hv0.kept hb1));have HB:=jj hb1;have HW:=jj hw1;have H9:=jj h9;obtain ⟨-,t0,t1,t2,t3,t4⟩:=hF;clear hvs hlen hr hb1 hw1 hv0 h9;go_enter Tryz.func25,Tryz.ntmps25;go_upto_region 1 with fail;rw[HW.out];go_wp2_with fail;(with_reducible refine HC.out.mono ?_);rintro e2 w2 ⟨A2,m2,d2,rfl,ho2,hb2,-⟩;rw[List.nil_append] at ho2;have HA:=jj (papart ho2.nds (fun y hy=>Nat.le_trans (nodes_size _ y hy) H9.out));have B2:=jj (HB.out.trans hb2);clear ho2 hb2 HC;go_wp2_with fail;(with_reducible refine HA.out.mono ?_);rintro e3 w3 ⟨A3,m3,d3,rfl,hs3,hb3⟩;have S3:=jj hs3;have B3:=jj (B2.out.trans (hb3.mono B2.out.size));clear hs3 hb3;go_wp2;go_ret;exact ⟨A3,m3,d3,rfl,S3.out,B3.out⟩
end
section
open Go.RowKit
theorem jnp {s:ByteArray} (h:0<s.size):s.data.toList=s[0] :: s.data.toList.drop 1:=by
  have:=jcp h
  rwa [List.drop_zero] at this
theorem empty_of' {s:ByteArray} (h:s.size=0):s=⟨#[]⟩:=jn0 (by
  have:s.data.toList.length=0:=by rw[size_list];exact h
  rw[List.eq_nil_of_length_eq_zero this])
theorem name_ways {s:ByteArray} (h:0<s.size):jjk s.data.toList=(ltB s[0]&&s.data.toList.all wdB&&!jjm s.data.toList):=by
  unfold jjk;have hh:=jnp h;(have e1:s.data.toList.isEmpty=false:=by rw[hh];rfl);(have e2:s.data.toList.headD 0=s[0]:=by rw[hh];rfl);rw[e1,e2]
  cases ha:s.data.toList.all wdB with
  | false=>simp
  | true =>
    have hw:wdB s[0]=true:=by
      rw[hh,List.all_cons,Bool.and_eq_true] at ha;exact ha.1
    have:(!dgB s[0])=ltB s[0]:=by
      cases hd:dgB s[0] with
      | true=>rw[dg_lt hd];rfl
      | false=>rw[wd_lt hw hd];rfl
    rw[this];simp
theorem jge {p:UInt8→Bool} {s:ByteArray} {k:Nat} (hk:k<s.size) (hp:p s[k]=false):s.data.toList.all p=false:=by
  cases ha:s.data.toList.all p with
  | false=>rfl
  | true =>
    have:s[k]∈s.data.toList:=List.mem_of_mem_drop (by rw[jcp hk];exact List.mem_cons_self ..);rw[List.all_eq_true.1 ha _ this] at hp;cases hp
def digR (d:List UInt8):Bool:=d.all dgB&&(decide (1≤d.length)&&decide (d.length≤9)&&(decide (d.length=1)||!(d.headD 0==48)))
theorem right_name {k:Int} (hk:k=1∨k=6∨k=7) (t:List UInt8):jb8 k t=(jjk t&&decide (t.length≤24)):=by
  rw[jki];rcases hk with rfl | rfl | rfl
  · rw[form1];try rfl
  · rw[form6];try rfl
  · rw[form7];try rfl
theorem right_int (t:List UInt8):jb8 3 t=digR t:=by
  rw[jki,form3];unfold digR;rw[show jl0 3=9 from rfl]
  cases t with
  | nil=>rfl
  | cons c x =>
    have hz:((c :: x)==[48])=(decide (x=[])&&(c==48)):=by
      rw[Bool.eq_iff_iff];simp only[beq_iff_eq,Bool.and_eq_true,decide_eq_true_eq,List.cons.injEq];exact ⟨fun h=>⟨h.2,h.1⟩,fun h=>⟨h.2,h.1⟩⟩
    rw[hz];simp only[List.isEmpty_cons,Bool.not_false,List.headD_cons,Bool.true_and,List.length_cons]
    cases x with
    | nil =>
      cases hc:(c==48) with
      | true =>
        (have:c=48:=by simpa using hc);subst this;decide
      | false=>simp
    | cons y z =>
      cases hc:(c==48) with
      | true=>simp
      | false=>simp
theorem right_text (t:List UInt8):jb8 4 t=(t.all jkq&&decide (t.length≤60)):=by rw[jki,form4];try rfl
end
section
open Go.RowKit
theorem lsame {W:World} {ok ok':Nat→Prop} {B B':Option Addr} {m d m' d':Nat} {l l':List Nd} (h:NdS W ok B m d l) (h':NdS W ok' B' m' d' l') :
    Calls Tryz.prog 24 #[.slice B m d,.slice B' m' d'] W fun e w'=>e=.returned (.bool (eqL true l l'))∧Below W.heap.size W w':=by
  obtain ⟨q,hq⟩:=jx (eqL true l l');rw[hq];have HQ:=jj hq;have hl:=h.len.1;have hl':=h'.len.1;have hmd:=h.len.2.1;have hdd:=h.len.2.2;have hmd':=h'.len.2.1;have hdd':=h'.len.2.2;have Hs:=jj h;have Hs':=jj h';have Hl:=jj hl;have Hl':=jj hl';by_cases hnm:m=m'
  · have hq:((m:Int) != (m':Int))=false:=jje (by omega);(have hmm1:m≤m':=by omega);(have hmm2:m'≤m:=by omega);have hll:=jj (show l.length=l'.length by omega);clear h h' hl hl' hnm;go_enter Tryz.func24,Tryz.ntmps24;go_wp2_with fail
    go_loopw [5] (fun x wr=>∃k:Nat,k≤m∧x=.int .i64 (k:Int)∧eqL true (l.take k) (l'.take k)=true∧Below W.heap.size W wr) (fun x _=>m - (intOf x).toNat)
    case atStart=>exact ⟨0,Nat.zero_le _,rfl,by simp[eqL],Below.refl _ _⟩
    case round =>
      obtain ⟨i,hi,rfl,hm,hbel⟩:=hrel;obtain ⟨w3,hw3⟩:∃w3,w3=wr:=⟨wr,rfl⟩;subst hw3;have Hm:=jj hm;have B3:=jj hbel;clear hm;by_cases hlt:i<m
      · (have hlt1:(i:Int)<(m:Int):=by omega);(have hlt2:(i:Int)<(m':Int):=by omega);obtain ⟨g,o,X,xA,xm,xd,rfl,hxl,rx,x0,x1,x2,x3,x4⟩:=(Hs.out.kept hbel).at_ hlt;obtain ⟨g',o',Y,yA,ym,yd,rfl,hyl,ry,y0,y1,y2,y3,y4⟩:=(Hs'.out.kept hbel).at_ (show i<m' by omega);have hbd:=jba w3;have HI:=jj (rSameAll (sizeN X) X Y w3.drew ok ok' _ _ (Nat.le_refl _) ((jb7 rx).kept hbd) ((jb7 ry).kept hbd));obtain ⟨n1,n2⟩:=eq_next hll.out Hm.out hxl hyl
        cases hs:eqN true X Y with
        | true =>
          have Hn:=jj (n1 hs);rw[hs] at HI;clear hs rx ry hxl hyl hbd hbel n1 n2;go_wp2;go_still_tail 8,(by kernel_rfl);change wpList _ _ _ _ _ w3.drew;go_wp2_with fail;(with_reducible refine HI.out.mono ?_);rintro e w4 ⟨rfl,hb4⟩;have B5:=jj (B3.out.trans ((jba w3).mono B3.out.size));have B6:=jj (B5.out.trans (hb4.mono B5.out.size));clear hb4;go_wp2;go_roundw
          case rel=>exact ⟨i+1,by omega,by go_num,Hn.out,B6.out⟩
          case measure=>simp[intOf];omega
        | false =>
          have Hn:=jj (HQ.out.symm.trans (n2 hs));rw[hs] at HI;clear hs rx ry hxl hyl hbd hbel n1 n2;go_wp2;go_still_tail 8,(by kernel_rfl);change wpList _ _ _ _ _ w3.drew;go_wp2_with fail;(with_reducible refine HI.out.mono ?_);rintro e w4 ⟨rfl,hb4⟩;have B5:=jj (B3.out.trans ((jba w3).mono B3.out.size));have B6:=jj (B5.out.trans (hb4.mono B5.out.size));clear hb4;go_wp2;go_ret;exact ⟨ja1 Hn.out.symm,B6.out⟩
      · (have hlt1:¬(i:Int)<(m:Int):=by omega);have hall:=Hm.out;rw[List.take_of_length_le (by rw[Hl.out];omega),List.take_of_length_le (by rw[Hl'.out];omega)] at hall;have Hn:=jj (HQ.out.symm.trans hall);clear hall hbel;go_wp2;go_ret;exact ⟨ja1 Hn.out.symm,B3.out⟩
  · have hq:((m:Int) != (m':Int))=true:=jjd (by omega);have Hn:=jj (show false=q by rw[←HQ.out];exact (eqL_len (by omega)).symm);clear h h' hl hl' hnm;go_enter Tryz.func24,Tryz.ntmps24;go_wp2;go_ret;exact ⟨ja1 Hn.out,Below.refl _ _⟩
end
section
open Go.RowKit Go.ChangeShapes Go.WideShapes Go.Joins
variable {H:Type} {enc:TypeId × Value→H} {W:World}
theorem listOf {α:Type} (n:Nat) (P:Nat→α→Prop) (h:∀i,i<n→∃x,P i x):∃l:List α,l.length=n∧∀i x,l[i]?=some x→P i x:=by
  induction n with
  | zero=>exact ⟨[],rfl,fun i x hx=>by simp at hx⟩
  | succ n ih =>
    obtain ⟨l,hl,hP⟩:=ih fun i hi=>h i (by omega);obtain ⟨x,hx⟩:=h n (by omega);refine ⟨l++[x],by simp[hl],fun i y hy=>?_⟩;by_cases hi:i<n
    · rw[List.getElem?_append_left (by omega)] at hy;exact hP i y hy
    · rw[List.getElem?_append_right (by omega)] at hy;have hlt:=(List.getElem?_eq_some_iff.1 hy).1;(have:i=n:=by simp at hlt;omega);subst this;rw[hl,Nat.sub_self] at hy;cases hy;exact hx
theorem arr5 {α:Type} {cs:Array α} (h:cs.size=5):∃c0 c1 c2 c3 c4,cs=#[c0,c1,c2,c3,c4]:=by
  obtain ⟨l⟩:=cs
  match l,h with
  | [c0,c1,c2,c3,c4],_=>exact ⟨c0,c1,c2,c3,c4,rfl⟩
theorem cellsNd:Tryz.prog.cellsOf 25=5:=by kernel_rfl
theorem noSpot {W:World} {a:Addr} {v:Value} (h:W.cell? a=some v):∃g o,a=⟨g,o,none⟩:=by
  obtain ⟨g,o,s⟩:=a
  cases s with
  | none=>exact ⟨g,o,rfl⟩
  | some s =>
    unfold World.cell? at h;split at h
    · simp at h
    · cases h
theorem oneLe {H:Type} (d:DataW H):1≤Rows.uptoBulk d:=by
  cases d with
  | lit l=>cases l<;>simp[Rows.uptoBulk]
  | nil=>simp[Rows.uptoBulk]
  | ptr d=>simp[Rows.uptoBulk]
  | slice elems spare=>simp[Rows.uptoBulk]
  | agg parts=>simp[Rows.uptoBulk]
  | iface t d=>simp[Rows.uptoBulk]
  | map entries=>simp[Rows.uptoBulk]
  | held h=>simp[Rows.uptoBulk]
def muB (n:Nd):Nat:=sizeN n+txN n
def muBL (l:List Nd):Nat:=ja8 l+txL l
theorem muBulk {H:Type}:∀(l:List Nd) (es:List (DataW H)),l.length=es.length→(∀(i:Nat) (x:Nd) (e:DataW H),l[i]?=some x→es[i]?=some e→muB x≤Rows.uptoBulk e)→muBL l≤Rows.uptoBulkAll es
  | [],es,_,_=>by unfold muBL ja8 txL;omega
  | x :: l,[],h,_=>by simp at h
  | x :: l,e :: es,h,hk=>by
    have h1:=hk 0 x e rfl rfl
    have h2:=muBulk l es (by simpa using h) fun i y d hy hd=>hk (i+1) y d (by simpa using hy) (by simpa using hd)
    unfold muBL at h2 ⊢
    unfold muB at h1
    unfold ja8 txL
    simp only[Rows.uptoBulkAll]
    omega
set_option maxRecDepth 100000 in
theorem node_of:∀(fuel:Nat) (v0 v1 v2 v3 v4:Value) (y:DataW H × List MemPlace),DataW.trod enc Tryz.prog W 0 (fun _=>true) true fuel 25 [v0,v1,v2,v3,v4]=some y→∃r,NdV W (fun _=>True) (.agg #[v0,v1,v2,v3,v4]) r∧muB r≤Rows.uptoBulk y.1:=by
  intro fuel
  induction fuel using Nat.strongRecOn with
  | ind fuel ih =>
    intro v0 v1 v2 v3 v4 y h;obtain ⟨xs,n,hfu,hy,hl,hlen,hall⟩:=DataW.trod_struct Tryz.underlying25 h
    match xs,hlen with
    | [y0,y1,y2,y3,y4],_ =>
      have hbk:3+Rows.uptoBulk y1.1+Rows.uptoBulk y4.1≤Rows.uptoBulk y.1:=by
        have k0:=oneLe y0.1;have k2:=oneLe y2.1;have k3:=oneLe y3.1;rw[hy];simp only[List.map_cons,List.map_nil,Rows.uptoBulk,Rows.uptoBulkAll];omega
      have h0:DataW.trod enc Tryz.prog W 0 (fun _=>true) true n 3 [v0]=some y0:=hall 0 _ rfl;have h1:DataW.trod enc Tryz.prog W 0 (fun _=>true) true n 9 [v1]=some y1:=hall 1 _ rfl;have h2:DataW.trod enc Tryz.prog W 0 (fun _=>true) true n 3 [v2]=some y2:=hall 2 _ rfl;have h3:DataW.trod enc Tryz.prog W 0 (fun _=>true) true n 3 [v3]=some y3:=hall 3 _ rfl;have h4:DataW.trod enc Tryz.prog W 0 (fun _=>true) true n 23 [v4]=some y4:=hall 4 _ rfl;obtain ⟨z0,q0,_,w0⟩:=DataW.trod_int Tryz.underlying3 h0;obtain ⟨z2,q2,_,w2⟩:=DataW.trod_int Tryz.underlying3 h2;obtain ⟨z3,q3,_,w3⟩:=DataW.trod_int Tryz.underlying3 h3;obtain ⟨s,q1,e1,_⟩:=DataW.trod_string Tryz.underlying9 h1;obtain rfl:v0=.int .i64 z0:=(List.cons.inj (q0:[v0]=[.int .i64 z0])).1;obtain rfl:v2=.int .i64 z2:=(List.cons.inj (q2:[v2]=[.int .i64 z2])).1;obtain rfl:v3=.int .i64 z3:=(List.cons.inj (q3:[v3]=[.int .i64 z3])).1;obtain rfl:v1=.string s:=(List.cons.inj (q1:[v1]=[.string s])).1;have hs:s=bs s.data.toList:=(jj9 s).symm;(have k1:Rows.uptoBulk y1.1=s.data.toList.length+1:=by rw[e1];simp only[Rows.uptoBulk]);obtain ⟨x,hx⟩:=jx (s.data.toList);rw[hx] at hs k1;subst hs;rcases DataW.trod_slice Tryz.underlying23 h4 with ⟨hcs,_⟩ | ⟨a,len,cap,elems,rest,q,hnq,hcs,hy4,_,hll,hm,hel,hx,_⟩
      · cases hcs;exact ⟨.mk z0 x z2 z3 [],jc1 _ _ _ _,by unfold muB sizeN ja8 txN txL;omega⟩
      · cases hcs;have hq:q<fuel:=by omega
        have key:∀j,j<len→∃c0 c1 c2 c3 c4 g' o',a.add (j*5)=⟨g',o',none⟩∧W.cell? ⟨g',o',none⟩=some c0∧W.cell? ⟨g',o'+1,none⟩=some c1∧W.cell? ⟨g',o'+2,none⟩=some c2∧W.cell? ⟨g',o'+3,none⟩=some c3∧W.cell? ⟨g',o'+4,none⟩=some c4 ∧
            ∃r,NdV W (fun _=>True) (.agg #[c0,c1,c2,c3,c4]) r∧∃e,elems[j]?=some e∧muB r≤Rows.uptoBulk e.1:=fun j hj=>by
          have hxj:=hx j hj;rw[List.getElem?_eq_getElem (by omega)] at hxj;obtain ⟨cs,hc,ht⟩:=Option.bind_eq_some_iff.1 hxj;rw[cellsNd] at hc;obtain ⟨_,hcl,hat⟩:=World.cells?_some hc
          match cs,hcl with
          | [c0,c1,c2,c3,c4],_ =>
            have e0:=hat 0 (by omega);have e1:=hat 1 (by omega);have e2:=hat 2 (by omega);have e3:=hat 3 (by omega);have e4:=hat 4 (by omega);obtain ⟨g',o',ha⟩:=noSpot (show W.cell? (a.add (j*5))=some c0 from e0);rw[ha] at e0 e1 e2 e3 e4;obtain ⟨r,hr1,hr2⟩:=ih q hq _ _ _ _ _ _ ht;exact ⟨c0,c1,c2,c3,c4,g',o',ha,e0,e1,e2,e3,e4,r,hr1,_,List.getElem?_eq_getElem (by omega),hr2⟩
        obtain ⟨ps,hpl,hps⟩:=listOf len (fun i (x:Value × Nd)=>∃g o c0 c1 c2 c3 c4,a=⟨g,o,none⟩∧x.1=.agg #[c0,c1,c2,c3,c4]∧W.cell? ⟨g,o+i*5,none⟩=some c0∧W.cell? ⟨g,o+i*5+1,none⟩=some c1∧W.cell? ⟨g,o+i*5+2,none⟩=some c2 ∧
            W.cell? ⟨g,o+i*5+3,none⟩=some c3∧W.cell? ⟨g,o+i*5+4,none⟩=some c4∧NdV W (fun _=>True) x.1 x.2∧∃e,elems[i]?=some e∧muB x.2≤Rows.uptoBulk e.1) fun i hi=>by
          obtain ⟨_,_,_,_,_,g,o,ha0,_⟩:=key 0 (by omega);(have ha:a=⟨g,o,none⟩:=by simpa [Addr.add] using ha0);obtain ⟨c0,c1,c2,c3,c4,g',o',hai,e0,e1,e2,e3,e4,r,hr⟩:=key i (by omega)
          have hgo:g'=g∧o'=o+i*5:=by
            rw[ha] at hai;unfold Addr.add at hai;split at hai
            · rename_i hz;injection hai with h1 h2;exact ⟨h1.symm,by omega⟩
            · injection hai with h1 h2;exact ⟨h1.symm,h2.symm⟩
          obtain ⟨rfl,rfl⟩:=hgo;exact ⟨(_,r),g',o,c0,c1,c2,c3,c4,ha,rfl,e0,e1,e2,e3,e4,hr⟩
        refine ⟨.mk z0 x z2 z3 (ps.map Prod.snd),.mk _ _ _ _ _ _ _ (ps.map Prod.fst) _ ⟨hll,by unfold maxLen at hm;omega,by simp[hpl],fun i v hv=>?_⟩ (by simp[hpl]) (fun i v x hv hx'=>?_),?_⟩
        · rw[List.getElem?_map] at hv;obtain ⟨x,hx1,rfl⟩:=Option.map_eq_some_iff.1 hv;obtain ⟨g,o,c0,c1,c2,c3,c4,ha,hv1,e0,e1,e2,e3,e4,_⟩:=hps i x hx1;exact ⟨g,o,c0,c1,c2,c3,c4,by rw[ha],trivial,hv1,e0,e1,e2,e3,e4⟩
        · rw[List.getElem?_map] at hv hx';obtain ⟨p1,hp1,rfl⟩:=Option.map_eq_some_iff.1 hv;rw[hp1] at hx';cases hx';obtain ⟨_,_,_,_,_,_,_,_,_,_,_,_,_,_,hr,_⟩:=hps i p1 hp1;exact hr
        · have hsz:=muBulk (ps.map Prod.snd) (elems.map (·.1)) (by simp[hpl,hel]) fun i x e h1 h2=>by
            rw[List.getElem?_map] at h1 h2;obtain ⟨p1,hp1,rfl⟩:=Option.map_eq_some_iff.1 h1;obtain ⟨e1,he1,rfl⟩:=Option.map_eq_some_iff.1 h2;obtain ⟨_,_,_,_,_,_,_,_,_,_,_,_,_,_,_,e2,he2,hle⟩:=hps i p1 hp1;rw[he1] at he2;cases he2;exact hle
          have hb4:Rows.uptoBulkAll (elems.map (·.1))+1≤Rows.uptoBulk y4.1:=by
            rw[hy4];simp only[Rows.uptoBulk];omega
          unfold muBL at hsz;unfold muB sizeN txN;omega
set_option maxRecDepth 100000 in
theorem node_arg {r:Reach} {b0:Nat} {v:Value} {d:DataW H} {p:List MemPlace} (hv:Value.okWide Tryz.prog W r b0 25 v) (h:DataW.Trod enc Tryz.prog W 0 (fun _=>true) true 25 v d p) :
    ∃k x a e l B m c,v=.agg #[.int .i64 k,.string (bs x),.int .i64 a,.int .i64 e,.slice B m c]∧NdS W (fun _=>True) B m c l∧sizeN (.mk k x a e l)+txN (.mk k x a e l)≤Rows.uptoBulk d:=by
  obtain ⟨cs,rfl,hsz⟩:=okWide_struct Tryz.underlying25 hv;rw[cellsNd] at hsz;obtain ⟨v0,v1,v2,v3,v4,rfl⟩:=arr5 hsz;obtain ⟨fuel,hf⟩:=h;obtain ⟨⟨k,x,a,e,l⟩,hr,hb⟩:=node_of fuel v0 v1 v2 v3 v4 _ (by simpa [Value.cells] using hf);obtain ⟨rfl,rfl,rfl,rfl,B,m,c,rfl,hk⟩:=hr.cells;exact ⟨k,x,a,e,l,B,m,c,rfl,hk,hb⟩
end
end Go.Proofs.YtonoklmobocikaaGreatDoor
