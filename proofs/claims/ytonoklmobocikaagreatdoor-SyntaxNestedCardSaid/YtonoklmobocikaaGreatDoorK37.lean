/- Lemmas. -/
import Derived.Test.YtonoklmobocikaaGreatDoorK36
set_option linter.unusedVariables false
set_option linter.unusedSimpArgs false
set_option maxRecDepth 20000
set_option maxHeartbeats 6400000
namespace Go.Proofs.YtonoklmobocikaaGreatDoor
section
section
variable {T:List Tk} {len:Int} {f:Nat}
theorem node_in {i j:Nat} {q:Int} {x:List UInt8} {l:List Nd} (b:Option Int) (h:i<T.length):je3 T q x (jaq T len ⟨i,b⟩) l ⟨j,none⟩=nd T q x i l j:=by
  unfold je3 nd jaq atT;dsimp only;rw[List.getElem?_eq_getElem h,jas]
theorem jaz {n m:Nd} {s r:Ps} (h:(some (n,s):Got)=some (m,r)):n=m∧s=r:=by
  injection h with h;injection h with h1 h2;exact ⟨h1,h2⟩
theorem nbad {p:Prop} (h:((none:Option Int).isSome=true)∨p):p:=by
  rcases h with h | h
  · cases h
  · exact h
variable (ih:∀nt i n j,jaw T len f nt ⟨i,none⟩=some (n,⟨j,none⟩)→Run T (.n nt) i n j)
include ih
theorem jfo {nt:NT} {s:Ps} {n:Nd} {j:Nat} (h:jaw T len f nt s=some (n,⟨j,none⟩)):∃i,s=⟨i,none⟩∧Run T (.n nt) i n j:=by
  obtain ⟨i,rfl⟩:=read_ok h;exact ⟨i,rfl,ih _ _ _ _ h⟩
theorem run_imports {i j:Nat} {n:Nd} (h:jfi T len (jaw T len f) ⟨i,none⟩=some (n,⟨j,none⟩)):Run T (.n .imports) i n j:=by
  unfold jfi at h;split at h
  · rename_i hi;dsimp only at h;obtain ⟨l,s3,h1,h2⟩:=ja2.1 h;obtain ⟨rfl,rfl⟩:=jaz h2;obtain ⟨k,hk,hr⟩:=jfo ih h1;obtain ⟨k2,hk2,hw,rfl⟩:=jd6 (by decide) hk;obtain ⟨i2,hi2,hc,rfl,hx⟩:=ji3 (k:=1) (by decide) (show jai T len 1 (jbb ⟨i,none⟩)=((jai T len 1 (jbb ⟨i,none⟩)).1,⟨k2,none⟩) from by rw[←hk2]);injection hi2 with hi2;subst hi2;rw[hk,hx,jer none (jh7 (by decide) hi)];exact .imp1 hi hc hw hr
  · rename_i hi;obtain ⟨rfl,h2⟩:=jaz h;injection h2 with h2;subst h2;exact .imp0 (Bool.eq_false_iff.2 hi)
theorem run_decls {i j:Nat} {n:Nd} (h:jip T (jaw T len f) ⟨i,none⟩=some (n,⟨j,none⟩)):Run T (.n .decls) i n j:=by
  unfold jip at h;split at h
  · rename_i hi;obtain ⟨rfl,h2⟩:=jaz h;injection h2 with h2;subst h2;exact .decls0 (nbad hi)
  · rename_i hi;obtain ⟨m,s1,h1,h⟩:=ja2.1 h;obtain ⟨l,s2,h2,h⟩:=ja2.1 h;obtain ⟨rfl,rfl⟩:=jaz h;obtain ⟨k,rfl,hr⟩:=jfo ih h2
    exact .decls1 (by
      have:¬T.length≤i:=fun hh=>hi (Or.inr hh)
      omega) (ih _ _ _ _ h1) hr
theorem run_decl {i j:Nat} {n:Nd} (h:jl8 T (jaw T len f) ⟨i,none⟩=some (n,⟨j,none⟩)):Run T (.n .decl) i n j:=by
  unfold jl8 at h;split at h
  · rename_i h1;exact .declC h1 (ih _ _ _ _ h)
  rename_i h1;split at h
  · rename_i h2;exact .declI (Bool.eq_false_iff.2 h1) h2 (ih _ _ _ _ h)
  rename_i h2;split at h
  · rename_i h3;exact .declF (Bool.eq_false_iff.2 h1) (Bool.eq_false_iff.2 h2) h3 (ih _ _ _ _ h)
  · rename_i h3;exact .declV (Bool.eq_false_iff.2 h1) (Bool.eq_false_iff.2 h2) (Bool.eq_false_iff.2 h3) (ih _ _ _ _ h)
theorem run_bbody {k:Int} {x:List UInt8} {a:Int} {kids:List Nd} {cls:Bool} {s:Ps} {n:Nd} {j:Nat} (h:jjl T len (jaw T len f) k x a kids cls s=some (n,⟨j,none⟩)) :
    ∃i l q,s=⟨i,none⟩∧Run T (.n (.members cls)) i l q∧jce T q 5 [125]=true∧j=q+1∧n=je3 T k x a (kids++[jbm l.kids (jc2 T i)]) ⟨q+1,none⟩:=by
  unfold jjl at h;obtain ⟨l,s1,h1,h⟩:=ja2.1 h;obtain ⟨h2,h3⟩:=jaz h;obtain ⟨q,rfl,hw,rfl⟩:=jd6 (by decide) h3;obtain ⟨i,rfl,hr⟩:=jfo ih h1;exact ⟨i,l,q,rfl,hr,hw,rfl,by rw[←h2,h3];rfl⟩
theorem jmu {x:List UInt8} {s:Ps} {b:Nd} {m:Nat} (h:(if isP T 2 x s=true then jaw T len f .types (jbb s) else some (je8,s))=some (b,⟨m,none⟩)):∃i,s=⟨i,none⟩∧Run T (.optTypes x) i b m:=by
  split at h
  · rename_i hp;have hb:=ji9 (by decide) hp;obtain ⟨i,c⟩:=s
    cases c with
    | some c=>cases hb
    | none =>
      obtain ⟨i2,hi2,hr⟩:=jfo ih h;injection hi2 with hi2;subst hi2;exact ⟨i,rfl,.optTypes1 hp hr⟩
  · rename_i hp;obtain ⟨rfl,rfl⟩:=jaz h;exact ⟨m,rfl,.optTypes0 (Bool.eq_false_iff.2 hp)⟩
theorem run_class {i j:Nat} {n:Nd} (h:jjg T len (jaw T len f) ⟨i,none⟩=some (n,⟨j,none⟩)):Run T (.n .classD) i n j:=by
  unfold jjg at h;dsimp only at h;obtain ⟨r,hr⟩:=jx (jai T len 1 (jab T len 2 jeo ⟨i,none⟩));rw[hr] at h;obtain ⟨e,he⟩:=jx ((if isP T 2 jmr r.2=true then ([(jel T len (jbb r.2)).1],(jel T len (jbb r.2)).2) else ([],r.2)));rw[he] at h;obtain ⟨b,s4,h1,h⟩:=ja2.1 h;obtain ⟨i5,l,q,h5,hm,hq,rfl,rfl⟩:=run_bbody ih h;obtain ⟨m,rfl,hw,rfl⟩:=jd6 (by decide) h5;obtain ⟨k,hk,ho⟩:=jmu ih h1;obtain ⟨k2,hk2,en,hen,hot⟩:=optTyp_ok he (by decide) hk;obtain ⟨i2,hi2,hc,rfl,hx⟩:=ji3 (k:=1) (by decide) (show jai T len 1 (jab T len 2 jeo ⟨i,none⟩)=(r.1,⟨k2,none⟩) from by rw[hr,←hk2]);obtain ⟨i3,hi3,hcl,rfl⟩:=jd6 (by decide) hi2;injection hi3 with hi3;subst hi3;rw[hx,hk2,hk,jer none (jh7 (by decide) hcl),←hen];exact .classD hcl hc hot ho hw hm hq
theorem run_iface {i j:Nat} {n:Nd} (h:jjf T len (jaw T len f) ⟨i,none⟩=some (n,⟨j,none⟩)):Run T (.n .ifaceD) i n j:=by
  unfold jjf at h;dsimp only at h;obtain ⟨r,hr⟩:=jx (jai T len 1 (jab T len 2 jey ⟨i,none⟩));rw[hr] at h;obtain ⟨b,s4,h1,h⟩:=ja2.1 h;obtain ⟨i5,l,q,h5,hm,hq,rfl,rfl⟩:=run_bbody ih h;obtain ⟨m,rfl,hw,rfl⟩:=jd6 (by decide) h5;obtain ⟨k2,hk2,ho⟩:=jmu ih h1;obtain ⟨i2,hi2,hc,rfl,hx⟩:=ji3 (k:=1) (by decide) (show jai T len 1 (jab T len 2 jey ⟨i,none⟩)=(r.1,⟨k2,none⟩) from by rw[hr,←hk2]);obtain ⟨i3,hi3,hcl,rfl⟩:=jd6 (by decide) hi2;injection hi3 with hi3;subst hi3;rw[hx,hk2,jer none (jh7 (by decide) hcl)];exact .ifaceD hcl hc ho hw hm hq
theorem run_members {c:Bool} {i j:Nat} {n:Nd} (h:jev T len (jaw T len f) c ⟨i,none⟩=some (n,⟨j,none⟩)):Run T (.n (.members c)) i n j:=by
  unfold jev at h;dsimp only at h;split at h
  · rename_i hi;obtain ⟨rfl,h2⟩:=jaz h;injection h2 with h2;subst h2;exact .mem0 (nbad hi)
  rename_i h0;have h0:jce T i 5 [125]=false:=Bool.eq_false_iff.2 fun hh=>h0 (Or.inr hh);split at h
  · rename_i hk;obtain ⟨l,s2,h1,h⟩:=ja2.1 h;obtain ⟨h2,rfl⟩:=jaz h;obtain ⟨k,hk2,hr⟩:=jfo ih h1;obtain ⟨i2,hi2,hkk,hn,_,hw⟩:=jkz (n:=(jco T len true ⟨i,none⟩).1) hk (by rw[←hk2]);injection hi2 with hi2;subst hi2;obtain ⟨hw1,rfl⟩:=hw rfl;rw[←h2,hn];exact .mem1 hkk hw1 hr
  split at h
  · rename_i hp;obtain ⟨m,s1,h1,h⟩:=ja2.1 h;obtain ⟨l,s2,h2,h⟩:=ja2.1 h;obtain ⟨rfl,rfl⟩:=jaz h;obtain ⟨k,rfl,hr⟩:=jfo ih h2;exact .mem2 hp (ih _ _ _ _ h1) hr
  rename_i hp;split at h
  · rename_i hc;subst hc;obtain ⟨m,s1,h1,h⟩:=ja2.1 h;obtain ⟨l,s2,h2,h⟩:=ja2.1 h;obtain ⟨rfl,rfl⟩:=jaz h;obtain ⟨k,rfl,hr⟩:=jfo ih h2;exact .mem3 h0 (Bool.eq_false_iff.2 hp) (ih _ _ _ _ h1) hr
  · obtain ⟨k,hk,_⟩:=jfo ih h;exact absurd (by rw[hk]) (fail_no (T:=T) (len:=len) (s:=⟨i,none⟩))
theorem run_func {b:Bool} {i j:Nat} {n:Nd} (h:jl6 T len (jaw T len f) b ⟨i,none⟩=some (n,⟨j,none⟩)):Run T (.n (.funcD b)) i n j:=by
  unfold jl6 at h;dsimp only at h;obtain ⟨r,hr⟩:=jx (jai T len 1 (jab T len 2 jed ⟨i,none⟩));rw[hr] at h;obtain ⟨a,s4,h1,h⟩:=ja2.1 h;obtain ⟨s5,hs5⟩:∃r,jab T len 5 [41] s4=r:=⟨_,rfl⟩;rw[hs5] at h;obtain ⟨e,he⟩:=jx ((if isP T 5 [58] s5=true then ([(jel T len (jbb s5)).1],(jel T len (jbb s5)).2) else ([],s5)));rw[he] at h;obtain ⟨c,s7,h2,h⟩:=ja2.1 h;obtain ⟨h3,rfl⟩:=jaz h
  have hb:∃m,e.2=⟨m,none⟩∧∃c',c'.kids=c.kids∧Run T (.blk b) m c' j:=by
    split at h2
    · rename_i hb;subst hb;obtain ⟨c1,s8,h4,h5⟩:=ja2.1 h2;obtain ⟨rfl,rfl⟩:=jaz h5;obtain ⟨m,hm,hrm⟩:=jfo ih h4;exact ⟨m,hm,jdo [c1],rfl,.blk1 hrm⟩
    · rename_i hb;have:b=false:=Bool.eq_false_iff.2 hb;subst this;obtain ⟨rfl,h5⟩:=jaz h2;obtain ⟨m,hm,hw,rfl⟩:=jd6 (by decide) h5;exact ⟨m,hm,je8,rfl,.blk0 hw⟩
  obtain ⟨m,hm,c',hc',hblk⟩:=hb;obtain ⟨k1,rfl,en,hen,hot⟩:=optTyp_ok he (by decide) hm;obtain ⟨k,rfl,hw,rfl⟩:=jd6 (by decide) hs5;obtain ⟨i3,hi3,hpar⟩:=jfo ih h1;obtain ⟨i2,hi2,hw2,rfl⟩:=jd6 (by decide) hi3;obtain ⟨i1,hi1,hc,rfl,hx⟩:=ji3 (k:=1) (by decide) (show jai T len 1 (jab T len 2 jed ⟨i,none⟩)=(r.1,⟨i2,none⟩) from by rw[hr,←hi2]);obtain ⟨i0,hi0,hcl,rfl⟩:=jd6 (by decide) hi1;injection hi0 with hi0;subst hi0;rw[←h3,hx,hi3,hm,jer none (jh7 (by decide) hcl),←hen,←hc'];exact .funcD hcl hc hw2 hpar hw hot hblk
theorem run_params {b:Bool} {i j:Nat} {n:Nd} (h:jfl T len (jaw T len f) b ⟨i,none⟩=some (n,⟨j,none⟩)):Run T (.n (.params b)) i n j:=by
  unfold jfl at h;dsimp only at h;split at h
  · rename_i hi;obtain ⟨rfl,h2⟩:=jaz h;injection h2 with h2;subst h2;exact .params0 (nbad hi)
  rename_i h0;have h0:jce T i 5 [41]=false:=Bool.eq_false_iff.2 fun hh=>h0 (Or.inr hh);obtain ⟨l,s2,h1,h⟩:=ja2.1 h;obtain ⟨h2,rfl⟩:=jaz h;obtain ⟨k,hk,hr⟩:=jfo ih h1
  cases b with
  | true =>
    have hk:(jdm T len ⟨i,none⟩).2=⟨k,none⟩:=hk;obtain ⟨i2,hi2,hp⟩:=param_ok (n:=(jdm T len ⟨i,none⟩).1) (j:=k) (by rw[←hk]);injection hi2 with hi2;subst hi2;rw[←h2];exact .params1 h0 hp hr
  | false =>
    have hk:(jdm T len (jab T len 5 [44] ⟨i,none⟩)).2=⟨k,none⟩:=hk;obtain ⟨i2,hi2,hp⟩:=param_ok (n:=(jdm T len (jab T len 5 [44] ⟨i,none⟩)).1) (j:=k) (by rw[←hk]);obtain ⟨i3,hi3,hw,rfl⟩:=jd6 (by decide) hi2;injection hi3 with hi3;subst hi3;rw[←h2];exact .params2 hw hp hr
theorem run_var {i j:Nat} {n:Nd} (h:bVar T len (jaw T len f) ⟨i,none⟩=some (n,⟨j,none⟩)):Run T (.n .varD) i n j:=by
  unfold bVar at h;dsimp only at h;obtain ⟨r,hr⟩:=jx (jai T len 1 (jab T len 2 jji ⟨i,none⟩));rw[hr] at h;obtain ⟨t,ht⟩:=jx (jel T len (jab T len 5 [58] r.2));rw[ht] at h;obtain ⟨l,s5,h1,h⟩:=ja2.1 h;obtain ⟨h2,h3⟩:=jaz h;obtain ⟨m,rfl,hw,rfl⟩:=jd6 (by decide) h3
  have hb:∃k,t.2=⟨k,none⟩∧∃l',l'.kids=l.kids∧Run T .optInit k l' m:=by
    split at h1
    · rename_i hp;obtain ⟨c1,s8,h4,h5⟩:=ja2.1 h1;obtain ⟨rfl,rfl⟩:=jaz h5;obtain ⟨k1,hk1,hrm⟩:=jfo ih h4;have hb:=ji9 (by decide) hp;obtain ⟨tn,⟨k,c⟩⟩:=t
      cases c with
      | some c=>cases hb
      | none =>
        injection hk1 with hk1;subst hk1;exact ⟨k,rfl,jdo [c1],rfl,.optInit1 hp hrm⟩
    · rename_i hp;obtain ⟨rfl,h5⟩:=jaz h1;refine ⟨m,h5,je8,rfl,.optInit0 (Bool.eq_false_iff.2 ?_)⟩;rw[h5] at hp;exact hp
  obtain ⟨k,hk,l',hl',hini⟩:=hb;obtain ⟨tn,ts⟩:=t;dsimp only at hk;subst hk;obtain ⟨i3,hi3,htyp⟩:=typ_ok ht;obtain ⟨i2,hi2,hw2,rfl⟩:=jd6 (by decide) hi3;obtain ⟨i1,hi1,hc,rfl,hx⟩:=ji3 (k:=1) (by decide) (show jai T len 1 (jab T len 2 jji ⟨i,none⟩)=(r.1,⟨i2,none⟩) from by rw[hr,←hi2]);obtain ⟨i0,hi0,hcl,rfl⟩:=jd6 (by decide) hi1;injection hi0 with hi0;subst hi0;rw[←h2,hx,h3,jer none (jh7 (by decide) hcl),←hl'];exact .varD hcl hc hw2 htyp hini hw
theorem run_types {i j:Nat} {n:Nd} (h:jh8 T len (jaw T len f) ⟨i,none⟩=some (n,⟨j,none⟩)):Run T (.n .types) i n j:=by
  unfold jh8 at h;dsimp only at h;obtain ⟨r,hr⟩:=jx ((if jbi T ⟨i,none⟩=7 then jco T len false ⟨i,none⟩ else jel T len ⟨i,none⟩));rw[hr] at h
  have key:∀k,r.2=⟨k,none⟩→Run T .elem i r.1 k:=by
    intro k hk;split at hr
    · rename_i h7;obtain ⟨i2,hi2,_,hn,h1,_⟩:=jkz (w:=false) (n:=r.1) (j:=k) (Or.inr h7) (by rw[hr,←hk]);injection hi2 with hi2;subst hi2;have:=h1 rfl;subst this;rw[jan] at h7;rw[hn,if_pos h7];exact .elem0 h7
    · rename_i h7;obtain ⟨i2,hi2,ht⟩:=typ_ok (n:=r.1) (j:=k) (by rw[hr,←hk]);injection hi2 with hi2;subst hi2;exact .elem1 h7 ht
  split at h
  · rename_i hp;have hb:=ji9 (by decide) hp;obtain ⟨l,s2,h1,h⟩:=ja2.1 h;obtain ⟨rfl,rfl⟩:=jaz h;obtain ⟨rn,⟨k,c⟩⟩:=r
    cases c with
    | some c=>cases hb
    | none =>
      obtain ⟨k2,hk2,hrt⟩:=jfo ih h1;injection hk2 with hk2;subst hk2;exact .types1 (key k rfl) hp hrt
  · rename_i hp;obtain ⟨h1,h2⟩:=jaz h;rw[h2] at hp;rw[←h1];exact .types0 (key j h2) (Bool.eq_false_iff.2 hp)
theorem run_block {i j:Nat} {n:Nd} (h:jjh T len (jaw T len f) ⟨i,none⟩=some (n,⟨j,none⟩)):Run T (.n .block) i n j:=by
  unfold jjh at h;dsimp only at h;obtain ⟨l,s2,h1,h⟩:=ja2.1 h;obtain ⟨h2,h3⟩:=jaz h;obtain ⟨m,rfl,hw,rfl⟩:=jd6 (by decide) h3;obtain ⟨k,hk,hr⟩:=jfo ih h1;obtain ⟨i2,hi2,hb,rfl⟩:=jd6 (by decide) hk;injection hi2 with hi2;subst hi2;rw[←h2,h3,jer none (jh7 (by decide) hb)];exact .block hb hr hw
theorem run_stmts {i j:Nat} {n:Nd} (h:jio T (jaw T len f) ⟨i,none⟩=some (n,⟨j,none⟩)):Run T (.n .stmts) i n j:=by
  unfold jio at h;split at h
  · rename_i hi;obtain ⟨rfl,h2⟩:=jaz h;injection h2 with h2;subst h2;exact .stmts0 (nbad hi)
  · rename_i h0;have h0:jce T i 5 [125]=false:=Bool.eq_false_iff.2 fun hh=>h0 (Or.inr hh);obtain ⟨m,s1,h1,h⟩:=ja2.1 h;obtain ⟨l,s2,h2,h⟩:=ja2.1 h;obtain ⟨rfl,rfl⟩:=jaz h;obtain ⟨k,rfl,hr⟩:=jfo ih h2;exact .stmts1 h0 (ih _ _ _ _ h1) hr
theorem run_stmt {i j:Nat} {n:Nd} (h:jhq T len (jaw T len f) ⟨i,none⟩=some (n,⟨j,none⟩)):Run T (.n .stmt) i n j:=by
  unfold jhq at h;dsimp only at h;split at h
  · rename_i hk;rw[jan] at hk;have h':jco T len true ⟨i,none⟩=(n,⟨j,none⟩):=Option.some.inj h;obtain ⟨i2,hi2,hkk,hn,_,hw⟩:=jkz (by rw[jan];rcases hk with h | h;exact Or.inr h;exact Or.inl h.1) h';injection hi2 with hi2;subst hi2;obtain ⟨hw1,rfl⟩:=hw rfl;rw[hn];exact .stmtM (by rcases hkk with h | h;exact Or.inr h;exact Or.inl h) hw1
  rename_i h0;split at h
  · rename_i h1;exact .stmtV h1 (ih _ _ _ _ h)
  rename_i h1;split at h
  · rename_i h2;exact .stmtB h2 (ih _ _ _ _ h)
  rename_i h2;split at h
  · rename_i h3;obtain ⟨l,s2,h4,h⟩:=ja2.1 h;obtain ⟨h5,h6⟩:=jaz h;obtain ⟨m,rfl,hw,rfl⟩:=jd6 (by decide) h6;rw[←h5,h6,jer none (jh7 (by decide) h3)];split at h4
    · rename_i hp;obtain ⟨rfl,h7⟩:=jaz h4;injection h7 with h7;subst h7;exact .stmtR h3 (.optExpr0 hp) hw
    · rename_i hp;obtain ⟨e,s8,h7,h8⟩:=ja2.1 h4;obtain ⟨rfl,rfl⟩:=jaz h8;obtain ⟨k,hk,hr⟩:=jfo ih h7;injection hk with hk;subst hk;exact .stmtR h3 (.optExpr1 (Bool.eq_false_iff.2 hp) hr) hw
  rename_i h3;split at h
  · rename_i h4;obtain ⟨c,s2,h5,h⟩:=ja2.1 h;obtain ⟨a,s3,h6,h⟩:=ja2.1 h;obtain ⟨b,s5,h7,h⟩:=ja2.1 h;obtain ⟨h8,rfl⟩:=jaz h
    have hb:∃m,s3=⟨m,none⟩∧∃b',b'.kids=b.kids∧Run T .optElse m b' j:=by
      split at h7
      · rename_i hp;obtain ⟨c1,s8,h9,h10⟩:=ja2.1 h7;obtain ⟨rfl,rfl⟩:=jaz h10;obtain ⟨k1,hk1,hrm⟩:=jfo ih h9;have hb:=ji9 (by decide) hp;obtain ⟨k,c⟩:=s3
        cases c with
        | some c=>cases hb
        | none =>
          injection hk1 with hk1;subst hk1;exact ⟨k,rfl,jdo [c1],rfl,.optElse1 hp hrm⟩
      · rename_i hp;obtain ⟨rfl,h9⟩:=jaz h7;refine ⟨j,h9,je8,rfl,.optElse0 (Bool.eq_false_iff.2 ?_)⟩;rw[h9] at hp;exact hp
    obtain ⟨m,rfl,b',hb',ho⟩:=hb;obtain ⟨k,rfl,hr1⟩:=jfo ih h6;obtain ⟨k0,hk0,hr0⟩:=jfo ih h5;injection hk0 with hk0;subst hk0;rw[←h8,jer none (jh7 (by decide) h4),←hb'];exact .stmtI h4 hr0 hr1 ho
  rename_i h4;split at h
  · rename_i h5;obtain ⟨c,s2,h6,h⟩:=ja2.1 h;obtain ⟨a,s3,h7,h⟩:=ja2.1 h;obtain ⟨h8,rfl⟩:=jaz h;obtain ⟨k,rfl,hr1⟩:=jfo ih h7;obtain ⟨k0,hk0,hr0⟩:=jfo ih h6;injection hk0 with hk0;subst hk0;rw[←h8,jer none (jh7 (by decide) h5)];exact .stmtW h5 hr0 hr1
  rename_i h5;obtain ⟨a,s1,h6,h⟩:=ja2.1 h
  have hin:∀k,s1=⟨k,none⟩→i<T.length:=by
    intro k hs;subst hs;have hlt:=((jep h6).2 rfl).lt rfl;have hlt:(T.length - k)+1<(T.length - i)+1:=hlt;omega
  have g0:=h0;rw[jan] at g0;have g1:jce T i 2 jji=false:=Bool.eq_false_iff.2 h1;have g2:jce T i 5 [123]=false:=Bool.eq_false_iff.2 h2;have g3:jce T i 2 jdy=false:=Bool.eq_false_iff.2 h3;have g4:jce T i 2 xIf=false:=Bool.eq_false_iff.2 h4;have g5:jce T i 2 jgx=false:=Bool.eq_false_iff.2 h5
  have g0':¬(kAt T i=7∨(kAt T i=6∧jlh T i=true)):=by
    intro hh;refine g0 (hh.imp id fun hh=>⟨hh.1,?_⟩);have hs:=hh.2;unfold jlh jce kAt xAt at hs;unfold jiw;dsimp only
    cases hT:T[i+1]? with
    | none=>rw[hT] at hs;simp at hs
    | some t=>rw[hT] at hs;exact hs
  split at h
  · rename_i h7;obtain ⟨b,s3,h8,h⟩:=ja2.1 h;obtain ⟨h9,h10⟩:=jaz h;obtain ⟨m,rfl,hw,rfl⟩:=jd6 (by decide) h10;obtain ⟨k,c⟩:=s1;have hb:=ji9 (by decide) h7
    cases c with
    | some c=>cases hb
    | none =>
      obtain ⟨k2,hk2,hr⟩:=jfo ih h8;injection hk2 with hk2;subst hk2;rw[←h9,h10,node_in none (hin k rfl)];exact .stmtA g0' g1 g2 g3 g4 g5 (ih _ _ _ _ h6) h7 hr hw
  · rename_i h7;obtain ⟨h9,h10⟩:=jaz h;obtain ⟨m,rfl,hw,rfl⟩:=jd6 (by decide) h10;rw[←h9,h10,node_in none (hin m rfl)];exact .stmtD g0' g1 g2 g3 g4 g5 (ih _ _ _ _ h6) (Bool.eq_false_iff.2 h7) hw
theorem run_cond {i j:Nat} {n:Nd} (h:jn5 T len (jaw T len f) ⟨i,none⟩=some (n,⟨j,none⟩)):Run T (.n .cond) i n j:=by
  unfold jn5 at h;obtain ⟨a,s1,h1,h⟩:=ja2.1 h;obtain ⟨rfl,h3⟩:=jaz h;obtain ⟨m,rfl,hw,rfl⟩:=jd6 (by decide) h3;obtain ⟨k,hk,hr⟩:=jfo ih h1;obtain ⟨i2,hi2,hb,rfl⟩:=jd6 (by decide) hk;injection hi2 with hi2;subst hi2;exact .cond hb hr hw
theorem run_expr {lvl i j:Nat} {n:Nd} (h:jl7 (jaw T len f) lvl ⟨i,none⟩=some (n,⟨j,none⟩)):Run T (.n (.expr lvl)) i n j:=by
  unfold jl7 at h;split at h
  · rename_i h6;exact .exprU h6 (ih _ _ _ _ h)
  · rename_i h6;obtain ⟨a,s1,h1,h⟩:=ja2.1 h;obtain ⟨k,rfl,hr⟩:=jfo ih h;exact .expr (by omega) (ih _ _ _ _ h1) hr
theorem run_bin {lvl i j:Nat} {n m:Nd} (h:bBin T (jaw T len f) lvl n ⟨i,none⟩=some (m,⟨j,none⟩)):Run T (.n (.binRest lvl n)) i m j:=by
  unfold bBin at h;split at h
  · rename_i hi;obtain ⟨rfl,h2⟩:=jaz h;injection h2 with h2;subst h2;exact .bin0 (nbad hi)
  · rename_i hi;obtain ⟨b,s1,h1,h⟩:=ja2.1 h;obtain ⟨k,rfl,hr⟩:=jfo ih h;exact .bin1 (fun hh=>hi (Or.inr hh)) (ih _ _ _ _ h1) hr
theorem run_unary {i j:Nat} {m:Nd} (h:jhp T len (jaw T len f) ⟨i,none⟩=some (m,⟨j,none⟩)):Run T (.n .unary) i m j:=by
  unfold jhp at h;split at h
  · rename_i hi;(have hk:kAt T i=5:=by rcases hi with h | h<;>exact (jbj h).1);rw[jm7 hk] at h;obtain ⟨a,s1,h1,h⟩:=ja2.1 h;obtain ⟨h2,rfl⟩:=jaz h;rw[←h2,jer none (by rw[hk];decide)];exact .unary1 hi (ih _ _ _ _ h1)
  · rename_i hi;obtain ⟨a,s1,h1,h⟩:=ja2.1 h;obtain ⟨k,rfl,hr⟩:=jfo ih h;exact .unary2 (Bool.eq_false_iff.2 fun hh=>hi (Or.inl hh)) (Bool.eq_false_iff.2 fun hh=>hi (Or.inr hh)) (ih _ _ _ _ h1) hr
theorem run_post {i j:Nat} {n m:Nd} (h:jkb T len (jaw T len f) n ⟨i,none⟩=some (m,⟨j,none⟩)):Run T (.n (.postRest n)) i m j:=by
  unfold jkb at h;dsimp only at h;rw[if_neg (by decide)] at h;split at h
  · rename_i h1;obtain ⟨k,hk,hr⟩:=jfo ih h;obtain ⟨i2,hi2,hc,rfl,hx⟩:=ji3 (k:=1) (by decide) (show jai T len 1 (jbb ⟨i,none⟩)=((jai T len 1 (jbb ⟨i,none⟩)).1,⟨k,none⟩) from by rw[←hk]);injection hi2 with hi2;subst hi2;rw[hx,hk] at hr;exact .post1 h1 hc hr
  rename_i h1;split at h
  · rename_i h2;obtain ⟨a,s2,h3,h⟩:=ja2.1 h;obtain ⟨k,rfl,hr⟩:=jfo ih h;exact .post2 h2 (ih _ _ _ _ h3) hr
  · rename_i h2;obtain ⟨rfl,h3⟩:=jaz h;injection h3 with h3;subst h3;exact .post0 (Bool.eq_false_iff.2 h1) (Bool.eq_false_iff.2 h2)
theorem run_args {i j:Nat} {n:Nd} (h:jn6 T len (jaw T len f) ⟨i,none⟩=some (n,⟨j,none⟩)):Run T (.n .args) i n j:=by
  unfold jn6 at h;obtain ⟨a,s1,h1,h⟩:=ja2.1 h;obtain ⟨rfl,h3⟩:=jaz h;obtain ⟨m,rfl,hw,rfl⟩:=jd6 (by decide) h3;exact .args (ih _ _ _ _ h1) hw
theorem run_argsL {b:Bool} {i j:Nat} {n:Nd} (h:jh9 T len (jaw T len f) b ⟨i,none⟩=some (n,⟨j,none⟩)):Run T (.n (.argsL b)) i n j:=by
  unfold jh9 at h;dsimp only at h;split at h
  · rename_i hi;obtain ⟨rfl,h2⟩:=jaz h;injection h2 with h2;subst h2;exact .argsL0 (nbad hi)
  rename_i h0;have h0:jce T i 5 [41]=false:=Bool.eq_false_iff.2 fun hh=>h0 (Or.inr hh)
  have key:∀(s1:Ps) (n:Nd) (k:Nat),(if jbi T s1=7 then some (jco T len false s1) else jaw T len f (.expr 0) s1)=some (n,⟨k,none⟩)→∃i',s1=⟨i',none⟩∧Run T .arg i' n k:=by
    intro s1 n k h;split at h
    · rename_i h7;obtain ⟨i2,rfl,_,hn,hj,_⟩:=jkz (Or.inr h7) (Option.some.inj h);rw[jan] at h7;have:=hj rfl;subst this;rw[hn,if_pos h7];exact ⟨i2,rfl,.arg0 h7⟩
    · rename_i h7;obtain ⟨i2,rfl,hr⟩:=jfo ih h;exact ⟨i2,rfl,.arg1 h7 hr⟩
  obtain ⟨m,s2,h1,h⟩:=ja2.1 h;obtain ⟨l,s3,h2,h⟩:=ja2.1 h;obtain ⟨rfl,rfl⟩:=jaz h;obtain ⟨k,rfl,hr⟩:=jfo ih h2;obtain ⟨i',hi',ha⟩:=key _ _ _ h1
  cases b with
  | true =>
    have hi':(⟨i,none⟩:Ps)=⟨i',none⟩:=hi';injection hi' with hi';subst hi';exact .argsL1 h0 ha hr
  | false =>
    obtain ⟨i3,hi3,hw,rfl⟩:=jd6 (by decide) (show jab T len 5 [44] ⟨i,none⟩=⟨i',none⟩ from hi');injection hi3 with hi3;subst hi3;exact .argsL2 hw ha hr
theorem run_primary {i j:Nat} {n:Nd} (h:jdv T len (jaw T len f) ⟨i,none⟩=some (n,⟨j,none⟩)):Run T (.n .primary) i n j:=by
  unfold jdv at h;dsimp only at h;rw[jan] at h;split at h
  · rename_i hk;rw[jm7 hk] at h;obtain ⟨h1,h2⟩:=jaz h;injection h2 with h2;subst h2;rw[←h1,jer none (by rw[hk];decide)];exact .leaf (Or.inl ⟨hk,rfl⟩)
  split at h
  · rename_i hk;rw[jm7 hk] at h;obtain ⟨h1,h2⟩:=jaz h;injection h2 with h2;subst h2;rw[←h1,jer none (by rw[hk];decide)];exact .leaf (Or.inr (Or.inl ⟨hk,rfl⟩))
  split at h
  · rename_i hk;rw[jm7 hk] at h;obtain ⟨h1,h2⟩:=jaz h;injection h2 with h2;subst h2;rw[←h1,jer none (by rw[hk];decide)];exact .leaf (Or.inr (Or.inr ⟨hk,rfl⟩))
  split at h
  · rename_i hk;obtain ⟨i2,hi2,_,hn,hj,_⟩:=jkz (by rw[jan];exact Or.inl hk) (Option.some.inj h);injection hi2 with hi2;subst hi2;have:=hj rfl;subst this;rw[hn,if_neg (by rw[hk];decide)];exact .primM hk
  split at h
  · rename_i hn;obtain ⟨l,s4,h1,h⟩:=ja2.1 h;obtain ⟨h2,rfl⟩:=jaz h;obtain ⟨k,hk,hr⟩:=jfo ih h1;obtain ⟨k2,hk2,hw,rfl⟩:=jd6 (by decide) hk;obtain ⟨i2,hi2,hc,hh⟩:=name_ok (x:=(jes T len (jbb ⟨i,none⟩)).1) (j:=k2) (by rw[←hk2]);injection hi2 with hi2;subst hi2;rw[←h2,jer none (jh7 (by decide) hn)];rcases hh with ⟨h3,rfl,h5⟩ | ⟨h3,h4,rfl,h5⟩
    · rw[h5];exact .new1 hn hc h3 hw hr
    · rw[h5];exact .new2 hn hc h3 h4 hw hr
  rename_i hn;split at h
  · rename_i hk;rw[jm7 hk.1] at h;obtain ⟨h1,h2⟩:=jaz h;injection h2 with h2;subst h2;rw[←h1,jer none (by rw[hk.1];decide)];exact .const (Bool.eq_false_iff.2 hn) hk.1 hk.2
  · obtain ⟨s1,hs1⟩:=jx (jab T len 5 [40] ⟨i,none⟩);rw[hs1] at h;split at h
    · rename_i hb;obtain ⟨_,rfl⟩:=jaz h;cases hb
    · obtain ⟨m,s2,h1,h⟩:=ja2.1 h;obtain ⟨h2,h3⟩:=jaz h;obtain ⟨k,rfl,hw,rfl⟩:=jd6 (by decide) h3;obtain ⟨k2,rfl,hr⟩:=jfo ih h1;obtain ⟨i2,hi2,hp,rfl⟩:=jd6 (by decide) hs1;injection hi2 with hi2;subst hi2;rw[←h2,h3,from_ok none (jh7 (by decide) hp),jas];exact .paren hp hr hw
end
theorem run_read {T:List Tk} {len:Int}:∀(f:Nat) (nt:NT) (i:Nat) (n:Nd) (j:Nat),jaw T len f nt ⟨i,none⟩=some (n,⟨j,none⟩)→Run T (.n nt) i n j:=by
  intro f
  induction f with
  | zero=>intro nt i n j h;cases h
  | succ f ih =>
    intro nt i n j h;have h:jbo T len (jaw T len f) nt ⟨i,none⟩=some (n,⟨j,none⟩):=h
    cases nt with
    | imports=>exact run_imports ih h
    | decls=>exact run_decls ih h
    | decl=>exact run_decl ih h
    | classD=>exact run_class ih h
    | ifaceD=>exact run_iface ih h
    | members cls=>exact run_members ih h
    | funcD blk=>exact run_func ih h
    | params first=>exact run_params ih h
    | varD=>exact run_var ih h
    | types=>exact run_types ih h
    | block=>exact run_block ih h
    | stmts=>exact run_stmts ih h
    | stmt=>exact run_stmt ih h
    | cond=>exact run_cond ih h
    | expr lvl=>exact run_expr ih h
    | binRest lvl n=>exact run_bin ih h
    | unary=>exact run_unary ih h
    | postRest n=>exact run_post ih h
    | args=>exact run_args ih h
    | argsL first=>exact run_argsL ih h
    | primary=>exact run_primary ih h
end
section
variable {T:List Tk} {len:Int}
theorem rd_eq {f:Nat} {nt:NT} {s:Ps} {r:Nd × Ps} (h:jaw T len f nt s=some r):rd T len nt s=r:=read_one (jg7 nt s) h
end
section
mutual
theorem jl4:∀n:Nd,jde (jc8 n)=jde n
  | .mk k x a e l=>by rw[jc8,jlz,jlz,jmz l]
theorem jmz:∀l:List Nd,jd3 (jd8 l)=jd3 l
  | []=>by rw[jd8]
  | n :: l=>by rw[jd8,jd3,jd3,jl4 n,jmz l]
end
theorem top_ok {T:List Tk} {len:Int} {r:Nd × Ps} {n:Nd} {a:Int} (h:jm6 T len r=(n,a,0)):n=r.1∧a=0∧r.2.bad=none∧T.length≤r.2.i∧jde n≤12:=by
  unfold jm6 at h;split at h
  · injection h with _ h;injection h with _ h;cases h
  · rename_i hb;split at h
    · injection h with _ h;injection h with _ h;cases h
    · rename_i hd;injection h with h1 h2;injection h2 with h2 _;split at hb
      · exact absurd hb fail_no
      · rename_i hi;exact ⟨h1.symm,h2.symm,hb,by omega,by rw[←h1];exact (deep_none _ _).1 hd⟩
theorem top_of {T:List Tk} {len:Int} {n:Nd} {j:Nat} (hj:T.length≤j) (hd:jde n≤12):jm6 T len (n,⟨j,none⟩)=(n,0,0):=by
  unfold jm6;dsimp only;rw[if_neg (by omega),(deep_none _ _).2 hd]
theorem run_rd {T:List Tk} {len:Int} {nt:NT} {i:Nat} {n:Nd} {j:Nat} (h:rd T len nt ⟨i,none⟩=(n,⟨j,none⟩)):Run T (.n nt) i n j:=run_read _ nt i n j (by rw[jg7,h])
end
section
mutual
theorem jlx:∀n m:Nd,eqN false n m=true↔jc8 n=jc8 m
  | .mk k x a e l,.mk k' x' a' e' l'=>by
    have:=eqL_strip l l'
    rw[eqN,jc8,jc8]
    simp[this]
theorem eqL_strip:∀l r:List Nd,eqL false l r=true↔jd8 l=jd8 r
  | [],[]=>by simp[eqL]
  | n :: l,m :: r=>by
    have h1:=jlx n m
    have h2:=eqL_strip l r
    rw[eqL,jd8,jd8]
    simp[h1,h2]
  | [],m :: r=>by simp[eqL,jd8]
  | n :: l,[]=>by simp[eqL,jd8]
end
end
section
theorem pre_plain (r:List UInt8):(jcy false r).1≠6∧(jcy false r).1≠7:=by
  unfold jcy;dsimp only;split
  · exact ⟨by simp,by simp⟩
  split
  · split<;>exact ⟨by simp,by simp⟩
  split
  · split<;>exact ⟨by simp,by simp⟩
  split
  · rename_i h;cases h.1
  split<;>exact ⟨by simp,by simp⟩
theorem scan_plain:∀(k:Nat) (D n:Nat) (r:List UInt8) (l:List Tk),jea k false D n r=.ok l→∀t∈l,t.kind≠6∧t.kind≠7:=by
  intro k
  induction k with
  | zero=>intro D n r l h;injection h with h;subst h;intro t ht;simp at ht
  | succ k ih =>
    intro D n r l h
    cases r with
    | nil=>rw[jez] at h;injection h with h;subst h;intro t ht;simp at ht
    | cons c r =>
      obtain ⟨he,hn,m,hm,rfl⟩:=jjr h;intro t ht;rcases List.mem_cons.1 ht with rfl | ht
      · exact pre_plain _
      · exact ih _ _ _ _ hm t ht
theorem mod_runs {T:List Tk} {len:Int} (hb:(modP T len).2.bad=none):∃x y k j,Run T (.n .imports) 0 x k∧Run T (.n .decls) k y j∧modP T len=(.mk 1 [] 0 len (x.kids++y.kids),⟨j,none⟩):=by
  unfold modP at hb ⊢;dsimp only at hb ⊢;obtain ⟨a,ha⟩:=jx (rd T len .imports ⟨0,none⟩);rw[ha] at hb ⊢;obtain ⟨b,hb'⟩:=jx (rd T len .decls a.2);rw[hb'] at hb ⊢;obtain ⟨x,sx⟩:=a;obtain ⟨y,⟨j,c⟩⟩:=b;dsimp only at hb hb' ⊢;subst hb;obtain ⟨k,rfl⟩:=read_ok (f:=jcj T .decls sx+1) (nt:=.decls) (s:=sx) (n:=y) (j:=j) (T:=T) (len:=len) (by rw[jg7,hb']);exact ⟨x,y,k,j,run_rd ha,run_rd hb',rfl⟩
theorem jlr {d:List UInt8} {n:Nd} {a:Int} (h:jdh d=(n,a,0)):∃T,jcx false d=.ok T∧∃x y k j,Run T (.n .imports) 0 x k∧Run T (.n .decls) k y j∧T.length≤j∧n=.mk 1 [] 0 (d.length:Int) (x.kids++y.kids)∧a=0∧jde n≤12:=by
  unfold jdh at h
  cases hs:jcx false d with
  | error e =>
    rw[hs] at h;injection h with _ h;injection h with _ h;exact absurd h ((jc0 false d).2 e.1 e.2 hs).2
  | ok T =>
    rw[hs] at h;obtain ⟨h1,h2,h3,h4,h5⟩:=top_ok h;obtain ⟨x,y,k,j,g1,g2,g3⟩:=mod_runs h3;rw[g3] at h1 h4;exact ⟨T,rfl,x,y,k,j,g1,g2,h4,h1,h2,h5⟩
theorem rd_sim {T T':List Tk} {a:Nat} {len len':Int} (hT:SimT T T' a) {nt nt':NT} {s s':Ps} (hn:SimN nt nt') (hs:jg2 a s s') :
    jc8 (rd T len nt s).1=jc8 (rd T' len' nt' s').1∧jg2 a (rd T len nt s).2 (rd T' len' nt' s').2:=by
  obtain ⟨n',s2,h1,h2,h3⟩:=sim_read (len:=len) (len':=len') hT _ nt nt' s s' hn hs _ _ (jg7 (T:=T) (len:=len) nt s);rw[rd_eq h1];exact ⟨h2,h3⟩
theorem top_sim {T T':List Tk} {a:Nat} {len len':Int} (hT:SimT T T' a) {r r':Nd × Ps} {n:Nd} {p:Int} (h1:jc8 r.1=jc8 r'.1) (h2:jg2 a r.2 r'.2) (h:jm6 T len r=(n,p,0)) :
    ∃m,jm6 T' len' r'=(m,0,0)∧jc8 m=jc8 n:=by
  obtain ⟨g1,g2,g3,g4,g5⟩:=top_ok h;obtain ⟨m,⟨j,c⟩⟩:=r'
  have hc:c=none:=by
    have:=h2.2;rw[g3] at this
    cases c with
    | none=>rfl
    | some c=>cases this
  subst hc;have hj:=(sim_end hT h2).1 g4
  have hd:jde m≤12:=by
    rw[←jl4,←h1,jl4,←g1];exact g5
  exact ⟨m,top_of hj hd,by rw[g1];exact h1.symm⟩
end
section
theorem tok_60 {k:Int} {t:List UInt8} (h:jb8 k t=true):t.length≤60:=by
  have h:=(jfy h).2;unfold jl0 at h;split at h
  · omega
  · split at h<;>omega
theorem scan_60 {pat:Bool} {d:List UInt8} {T:List Tk} (h:jcx pat d=.ok T):T.length≤600∧∀t∈T,t.text.length≤60:=by
  obtain ⟨h1,h2⟩:=(jc0 pat d).1 T h;refine ⟨h2,fun t ht=>tok_60 (k:=t.kind) ?_⟩;unfold jad at h1;exact List.all_eq_true.1 h1 t ht
end
end Go.Proofs.YtonoklmobocikaaGreatDoor
