/- Lemmas. -/
import Derived.Test.YtonoklmobocikaaGreatDoorK52
set_option linter.unusedVariables false
set_option linter.unusedSimpArgs false
set_option maxRecDepth 20000
set_option maxHeartbeats 6400000
namespace Go.Proofs.YtonoklmobocikaaGreatDoor
section
def FQ:RN→Nd→Prop
  | .n .imports,n=>n.kids.all jk9=true
  | .n .decls,n=>jcs false n.kids .decl=true
  | .n .decl,n | .n .classD,n | .n .ifaceD,n=>jat false n .decl=true
  | .n (.funcD b),n=>if b then jat false n .decl=true∧jat false n .member=true else jat false n .sig=true
  | .n .varD,n=>jat false n .decl=true∧jat false n .member=true∧jat false n .stmt=true
  | .n (.members b),n=>jcs false n.kids (if b then .member else .sig)=true
  | .n (.params _),n=>jcs false n.kids .param=true
  | .n .types,n | .optTypes _,n=>jcs false n.kids .types=true
  | .typ,n=>jat false n .typ=true∧jat false n .types=true
  | .elem,n=>jat false n .types=true
  | .param,n=>jat false n .param=true
  | .arg,n=>jat false n .arg=true
  | .optTyp _ _,n=>jcs false n.kids .typ=true∧n.kids.length≤1
  | .optInit,n | .optExpr,n=>jcs false n.kids .expr=true∧n.kids.length≤1
  | .optElse,n=>jcs false n.kids .block=true∧n.kids.length≤1
  | .blk b,n=>if b then jcs false n.kids .block=true∧n.kids.length=1 else n.kids=[]
  | .n .block,n=>jat false n .block=true∧jat false n .stmt=true
  | .n .stmts,n=>jcs false n.kids .stmt=true
  | .n .stmt,n=>jat false n .stmt=true
  | .n .cond,n | .n (.expr _),n | .n .unary,n | .n .primary,n=>jat false n .expr=true
  | .n (.binRest _ m),n | .n (.postRest m),n=>jat false m .expr=true→jat false n .expr=true
  | .n .args,n | .n (.argsL _),n=>jcs false n.kids .arg=true
theorem jgb {l:List Nd} {p:Int} {w:Wh} {least:Nat} {most:Option Nat} (h:jcs false l w=true) (h1:least≤l.length) (h2:∀m,most=some m→l.length≤m):jat false (jbm l p) (.lst w least most)=true:=by
  unfold jbm
  cases most with
  | none=>simp[jat,h,h1]
  | some m=>simp[jat,h,h1,h2 m rfl]
theorem re_expr {n:Nd} {a e:Int} (h:jat false n .expr=true):jat false (.mk n.kind n.text a e n.kids) .expr=true:=by
  obtain ⟨k,x,a',e',l⟩:=n;unfold jat at h ⊢;exact h
theorem op_is {T:List Tk} {lvl i:Nat} (h:jnj T lvl i≠[]):opOk (jnj T lvl i)=true:=by
  obtain ⟨x,hx,_,h2⟩:=op_in (T:=T) (s:=⟨i,none⟩) (show opP T lvl ⟨i,none⟩≠[] from h);have h2:jnj T lvl i=x:=h2;rw[h2];unfold opOk;rw[List.contains_iff_mem];unfold jkl at hx;split at hx
  · simp[jkl] at hx ⊢;simp[hx]
  split at hx
  · simp[jkl] at hx ⊢;simp[hx]
  split at hx
  · simp[jkl] at hx ⊢;rcases hx with h | h<;>simp[h]
  split at hx
  · simp[jkl] at hx ⊢;rcases hx with h | h<;>simp[h]
  split at hx
  · simp[jkl] at hx ⊢;rcases hx with h | h<;>simp[h]
  · simp[jkl] at hx ⊢;rcases hx with h | h | h<;>simp[h]
theorem name_dot {x:List UInt8} (h:jcn x=true):x.all (· != 46)=true:=by
  have hf:jjk x=true:=by
    unfold jcn jb8 jcd at h;simp only[beq_iff_eq] at h;split at h
    · cases h
    · rename_i h';unfold jgq at h';simpa using h'
  unfold jjk at hf;simp only[Bool.and_eq_true] at hf;rw[List.all_eq_true];intro c hc;have:=List.all_eq_true.1 hf.1.2 c hc;rw[bne_iff_ne];intro h46;subst h46;revert this;decide
theorem type_name {x:List UInt8} (h:jcn x=true):jf5 x=true:=by
  have:=name_dot h;unfold jf5;dsimp only;rw[if_pos]
  · exact h
  · have tw:∀l:List UInt8,l.all (· != 46)=true→l.takeWhile (· != 46)=l:=by
      intro l
      induction l with
      | nil=>intro _;rfl
      | cons c l ih =>
        intro h;rw[List.all_cons,Bool.and_eq_true] at h;rw[List.takeWhile_cons,if_pos h.1,ih h.2]
    rw[tw x this]
theorem type_two {x y:List UInt8} (h:jcn x=true) (h':jcn y=true):jf5 (x++46 :: y)=true:=by
  have hx:=name_dot h
  have e:(x++46 :: y).takeWhile (· != 46)=x:=by
    rw[List.takeWhile_append_of_pos (List.all_eq_true.1 hx)];simp
  unfold jf5;dsimp only;rw[e,if_neg (by simp),h]
  have:(x++46 :: y).drop (x.length+1)=y:=by
    rw[List.drop_append];simp
  rw[this,h'];try rfl
end
section
section
variable {T:List Tk} (hR:∀i,i<T.length→jb8 (kAt T i) (xAt T i)=true) (hM:∀i,kAt T i≠6∧kAt T i≠7)
include hR in
theorem jga {i:Nat} (h:kAt T i=1):jcn (xAt T i)=true:=by
  have:=hR i (jbf (by rw[h];decide));rw[h] at this;exact this
theorem jko {n:Nd} {w:Wh} (h:jat false n w=true):jcs false [n] w=true:=by rw[je6,h,jdg];try rfl
theorem jhb {n:Nd} {l:List Nd} {w:Wh} (h:jat false n w=true) (h':jcs false l w=true):jcs false (n :: l) w=true:=by rw[je6,h,h'];try rfl
theorem jk5 {m k:Nat} (h:m≤1) (hk:some 1=some k):m≤k:=by injection hk with hk;omega
theorem var_fits {x:List UInt8} {a e p:Int} {t:Nd} {l:List Nd} (hx:jcn x=true) (ht:jat false t .typ=true) (hl:jcs false l .expr=true) (hn:l.length≤1) :
    jat false (.mk 6 x a e [t,jbm l p]) .decl=true∧jat false (.mk 6 x a e [t,jbm l p]) .member=true∧jat false (.mk 6 x a e [t,jbm l p]) .stmt=true:=by
  have h1:=jgb (p:=p) (w:=.expr) (least:=0) (most:=some 1) hl (Nat.zero_le _) (fun m hm=>jk5 hn hm);refine ⟨?_,?_,?_⟩<;>simp[jat,je1,hx,ht,h1]
include hR hM
theorem run_fits {r:RN} {i:Nat} {n:Nd} {j:Nat} (h:Run T r i n j):FQ r n:=by
  induction h with
  | imp0 h=>rfl
  | imp1 h1 h2 h3 hr ih =>
    show (List.all (_ :: _) jk9)=true;rw[List.all_cons,ih];have:=jga hR h2;simp[jk9,nd,Nd.kind,Nd.kids,Nd.text,this]
  | decls0 h=>exact jdg _
  | decls1 h1 hr1 hr2 ih1 ih2=>exact jhb ih1 ih2
  | declC h1 hr ih=>exact ih
  | declI h1 h2 hr ih=>exact ih
  | declF h1 h2 h3 hr ih=>exact ih.1
  | declV h1 h2 h3 hr ih=>exact ih.1
  | @classD i k m q e b l h1 h2 hr1 hr2 h3 hr3 h4 ih1 ih2 ih3 =>
    have g1:=jgb (p:=jc2 T (i+2)) (w:=.typ) (least:=0) (most:=some 1) ih1.1 (Nat.zero_le _) (fun m hm=>jk5 ih1.2 hm);have g2:=jgb (p:=jc2 T k) (w:=.types) (least:=0) (most:=none) ih2 (Nat.zero_le _) (fun m hm=>by cases hm);have g3:=jgb (p:=jc2 T (m+1)) (w:=.member) (least:=0) (most:=none) ih3 (Nat.zero_le _) (fun m hm=>by cases hm);have g4:=jga hR h2;show jat false (.mk _ _ _ _ _) .decl=true;simp[jat,je1,g1,g2,g3,g4]
  | @ifaceD i m q b l h1 h2 hr2 h3 hr3 h4 ih2 ih3 =>
    have g2:=jgb (p:=jc2 T (i+2)) (w:=.types) (least:=0) (most:=none) ih2 (Nat.zero_le _) (fun m hm=>by cases hm);have g3:=jgb (p:=jc2 T (m+1)) (w:=.sig) (least:=0) (most:=none) ih3 (Nat.zero_le _) (fun m hm=>by cases hm);have g4:=jga hR h2;show jat false (.mk _ _ _ _ _) .decl=true;simp[jat,je1,g2,g3,g4]
  | mem0 h=>exact jdg _
  | mem1 h1 h2 hr ih=>exact absurd h1 (by have:=hM;rintro (h | h);exact (hM _).1 h;exact (hM _).2 h)
  | @mem2 c i k j n l h1 hr1 hr2 ih1 ih2 =>
    refine jhb ?_ ih2
    cases c with
    | true=>exact (show jat false n .decl=true∧jat false n .member=true from ih1).2
    | false=>exact ih1
  | mem3 h1 h2 hr1 hr2 ih1 ih2=>exact jhb ih1.2.1 ih2
  | @funcD bb i k m j a e c h1 h2 h3 hr1 h4 hr2 hr3 ih1 ih2 ih3 =>
    have g1:=jgb (p:=jc2 T (i+3)) (w:=.param) (least:=0) (most:=none) ih1 (Nat.zero_le _) (fun m hm=>by cases hm);have g2:=jgb (p:=jc2 T (k+1)) (w:=.typ) (least:=0) (most:=some 1) ih2.1 (Nat.zero_le _) (fun m hm=>jk5 ih2.2 hm);have g4:=jga hR h2
    cases bb with
    | true =>
      have ih3:jcs false c.kids .block=true∧c.kids.length=1:=ih3;have g3:=jgb (p:=jc2 T m) (w:=.block) (least:=1) (most:=some 1) ih3.1 (by omega) (fun m hm=>jk5 (by omega) hm);show jat false (.mk _ _ _ _ _) .decl=true∧jat false (.mk _ _ _ _ _) .member=true;refine ⟨?_,?_⟩<;>simp[jat,je1,g1,g2,g3,g4]
    | false =>
      have ih3:c.kids=[]:=ih3;have g3:=jgb (p:=jc2 T m) (w:=.block) (least:=0) (most:=some 0) (l:=c.kids) (by rw[ih3];exact jdg _) (Nat.zero_le _) (fun m hm=>by rw[ih3];exact Nat.zero_le _);show jat false (.mk _ _ _ _ _) .sig=true;simp[jat,je1,g1,g2,g3,g4]
  | blk1 hr ih=>exact ⟨jko ih.1,rfl⟩
  | blk0 h=>rfl
  | params0 h=>exact jdg _
  | params1 h1 hr1 hr2 ih1 ih2=>exact jhb ih1 ih2
  | params2 h1 hr1 hr2 ih1 ih2=>exact jhb ih1 ih2
  | param0 h=>exact absurd h (hM _).2
  | param1 h1 h2 hr ih =>
    have g4:=jga hR h1;have g1:=ih.1;show jat false (.mk _ _ _ _ _) .param=true;simp[jat,je1,g1,g4]
  | varD h1 h2 h3 hr1 hr2 h4 ih1 ih2=>exact var_fits (jga hR h2) ih1.1 ih2.1 ih2.2
  | typM h=>exact absurd h (hM _).1
  | typ1 h h' =>
    have g:=type_name (jga hR h);show jat false (.mk _ _ _ _ _) .typ=true∧jat false (.mk _ _ _ _ _) .types=true;refine ⟨?_,?_⟩<;>simp[jat,g]
  | typ2 h h1 h2 =>
    have g:=type_two (jga hR h) (jga hR h2);show jat false (.mk _ _ _ _ _) .typ=true∧jat false (.mk _ _ _ _ _) .types=true;refine ⟨?_,?_⟩<;>simp[jat,g]
  | elem0 h=>exact absurd h (hM _).2
  | elem1 h hr ih=>exact ih.2
  | types0 hr h ih=>exact jko ih
  | types1 hr1 h hr2 ih1 ih2=>exact jhb ih1 ih2
  | optTyp0 hk h=>exact ⟨jdg _,Nat.zero_le _⟩
  | optTyp1 hk h hr ih=>exact ⟨jko ih.1,Nat.le_refl _⟩
  | optTypes0 h=>exact jdg _
  | optTypes1 h hr ih=>exact ih
  | optInit0 h=>exact ⟨jdg _,Nat.zero_le _⟩
  | optInit1 h hr ih=>exact ⟨jko ih,Nat.le_refl _⟩
  | block h hr h' ih =>
    have g:jcs false _ .stmt=true:=ih;show jat false (.mk _ _ _ _ _) .block=true∧jat false (.mk _ _ _ _ _) .stmt=true;refine ⟨?_,?_⟩<;>simp[jat,g]
  | stmts0 h=>exact jdg _
  | stmts1 h hr1 hr2 ih1 ih2=>exact jhb ih1 ih2
  | stmtM h h'=>exact absurd h (by rintro (h | h);exact (hM _).2 h;exact (hM _).1 h)
  | stmtV h hr ih=>exact ih.2.2
  | stmtB h hr ih=>exact ih.2
  | stmtR h hr h' ih =>
    have g:=ih.1;have g':=ih.2;show jat false (.mk _ _ _ _ _) .stmt=true;simp[jat,g,g']
  | @stmtI i k m j c a b h hr1 hr2 hr3 ih1 ih2 ih3 =>
    have g1:=jgb (p:=jc2 T m) (w:=.block) (least:=0) (most:=some 1) ih3.1 (Nat.zero_le _) (fun m hm=>jk5 ih3.2 hm);have g2:jat false c .expr=true:=ih1;have g3:=ih2.1;show jat false (.mk _ _ _ _ _) .stmt=true;simp[jat,je1,g1,g2,g3]
  | @stmtW i k j c a h hr1 hr2 ih1 ih2 =>
    have g2:jat false c .expr=true:=ih1;have g3:=ih2.1;show jat false (.mk _ _ _ _ _) .stmt=true;simp[jat,je1,g2,g3]
  | @stmtA i k j a b h0 h1 h2 h3 h4 h5 hr1 h6 hr2 h7 ih1 ih2 =>
    have g2:jat false a .expr=true:=ih1;have g3:jat false b .expr=true:=ih2;show jat false (.mk _ _ _ _ _) .stmt=true;simp[jat,je1,g2,g3]
  | @stmtD i j a h0 h1 h2 h3 h4 h5 hr1 h6 h7 ih1 =>
    have g2:jat false a .expr=true:=ih1;have g3:=fit_kind g2;rw[bne_iff_ne] at g3;show jat false (.mk _ _ _ _ _) .stmt=true;simp[jat,je1,g2,g3]
  | optExpr0 h=>exact ⟨jdg _,Nat.zero_le _⟩
  | optExpr1 h hr ih=>exact ⟨jko ih,Nat.le_refl _⟩
  | optElse0 h=>exact ⟨jdg _,Nat.zero_le _⟩
  | optElse1 h hr ih=>exact ⟨jko ih.1,Nat.le_refl _⟩
  | cond h hr h' ih=>exact ih
  | expr h hr1 hr2 ih1 ih2=>exact ih2 ih1
  | exprU h hr ih=>exact ih
  | bin0 h=>exact fun h=>h
  | @bin1 lvl i k j n b m h hr1 hr2 ih1 ih2 =>
    intro hn;have g2:jat false b .expr=true:=ih1;have g3:=op_is h;refine (show jat false (.mk 23 (jnj T lvl i) n.at_ (jc2 T k) [n,b]) .expr=true→jat false m .expr=true from ih2) ?_;simp[jat,je1,hn,g2,g3]
  | @unary1 i j a h hr ih =>
    have g2:jat false a .expr=true:=ih;have g3:xAt T i=[33]∨xAt T i=[45]:=h.imp (fun h=>(jbj h).2) (fun h=>(jbj h).2);show jat false (.mk _ _ _ _ _) .expr=true;rcases g3 with g3 | g3<;>simp[jat,je1,g2,g3]
  | unary2 h h' hr1 hr2 ih1 ih2=>exact ih2 ih1
  | post0 h h'=>exact fun h=>h
  | @post1 i j n m h h' hr ih =>
    intro hn;have g4:=jga hR h';refine (show jat false (.mk 19 (xAt T (i+1)) n.at_ (jc2 T (i+2)) [n]) .expr=true→jat false m .expr=true from ih) ?_;simp[jat,je1,hn,g4]
  | @post2 i k j n a m h hr1 hr2 ih1 ih2 =>
    intro hn;have g:jcs false a.kids .arg=true:=ih1;refine (show jat false (.mk 20 [] n.at_ (jc2 T k) (n :: a.kids)) .expr=true→jat false m .expr=true from ih2) ?_;simp[jat,jic,hn,g]
  | args hr h ih=>exact ih
  | argsL0 h=>exact jdg _
  | argsL1 h1 hr1 hr2 ih1 ih2=>exact jhb ih1 ih2
  | argsL2 h1 hr1 hr2 ih1 ih2=>exact jhb ih1 ih2
  | arg0 h=>exact absurd h (hM _).2
  | arg1 h hr ih=>exact (jnv _).trans ih
  | @leaf i q h =>
    show jat false (.mk _ _ _ _ _) .expr=true;rcases h with ⟨h,rfl⟩ | ⟨h,rfl⟩ | ⟨h,rfl⟩
    · have g:=jga hR h;simp[jat,g]
    · have g:=hR i (jbf (by rw[h];decide));rw[h] at g;simp[jat,g]
    · have g:=hR i (jbf (by rw[h];decide));rw[h] at g;simp[jat,g]
  | primM h=>exact absurd h (hM _).1
  | @new1 i j l h1 h2 h3 h4 hr ih =>
    have g:=type_name (jga hR h2);have g2:jcs false l.kids .arg=true:=ih;show jat false (.mk _ _ _ _ _) .expr=true;simp[jat,g,g2]
  | @new2 i j l h1 h2 h3 h4 h5 hr ih =>
    have g:=type_two (jga hR h2) (jga hR h4);have g2:jcs false l.kids .arg=true:=ih;show jat false (.mk _ _ _ _ _) .expr=true;simp[jat,g,g2]
  | const h1 h2 h3 =>
    show jat false (.mk _ _ _ _ _) .expr=true;simp[jat,h3]
  | paren h hr h' ih=>exact re_expr ih
end
end
section
theorem kAt_mem {T:List Tk} {i:Nat} (h:i<T.length):kAt T i=T[i].kind∧xAt T i=T[i].text:=by
  unfold kAt xAt;rw[List.getElem?_eq_getElem h];exact ⟨rfl,rfl⟩
theorem plain_kinds {d:List UInt8} {T:List Tk} (h:jcx false d=.ok T):(∀i,i<T.length→jb8 (kAt T i) (xAt T i)=true)∧∀i,kAt T i≠6∧kAt T i≠7:=by
  constructor
  · intro i hi;have har:=((jc0 false d).1 T h).1;rw[(kAt_mem hi).1,(kAt_mem hi).2];exact List.all_eq_true.1 har _ (List.getElem_mem hi)
  · intro i;by_cases hi:i<T.length
    · rw[(kAt_mem hi).1];exact scan_plain _ _ _ _ _ h _ (List.getElem_mem hi)
    · unfold kAt;rw[List.getElem?_eq_none (by omega)];exact ⟨by decide,by decide⟩
theorem fitL_drop {w:Wh}:∀l:List Nd,jcs false l w=true→jcs false (l.dropWhile jk9) w=true:=by
  intro l
  induction l with
  | nil=>intro h;exact h
  | cons n l ih =>
    intro h;rw[List.dropWhile_cons];split
    · rw[je6,Bool.and_eq_true] at h;exact ih h.2
    · exact h
theorem drop_all:∀l r:List Nd,l.all jk9=true→(l++r).dropWhile jk9=r.dropWhile jk9:=by
  intro l r
  induction l with
  | nil=>intro _;rfl
  | cons n l ih =>
    intro h;rw[List.all_cons,Bool.and_eq_true] at h;rw[List.cons_append,List.dropWhile_cons,if_pos h.1,ih h.2]
theorem module_nest {d:List UInt8} {n:Nd} {a:Int} (h:jdh d=(n,a,0)):nest n∧n.at_=0∧n.en=(d.length:Int)∧rightM n=true∧jde n≤12:=by
  obtain ⟨T,hs,x,y,k,j,h1,h2,h3,rfl,rfl,h5⟩:=jlr h;obtain ⟨ho,hl⟩:=jni hs;obtain ⟨hR,hM⟩:=plain_kinds hs;obtain ⟨a1,a2,a3⟩:=(show QL T 0 x k from jix ho h1) (Nat.zero_le _);obtain ⟨b1,b2,b3⟩:=(show QL T k y j from jix ho h2) a2;refine ⟨jgl.2 (je4 (Int.le_refl _) (hl j b2) _ (ji7 ho a3 (Nat.le_refl k) a2 b3)),rfl,rfl,?_,h5⟩;have g1:x.kids.all jk9=true:=run_fits hR hM h1;have g2:jcs false y.kids .decl=true:=run_fits hR hM h2;have g3:=fitL_drop _ g2;rw[←drop_all x.kids y.kids g1] at g3;show ((1:Int)==1&&([]:List UInt8)==[]&&jcs false ((x.kids++y.kids).dropWhile jk9) .decl)=true;rw[g3];try rfl
theorem frag_nest {what:Int} {d:List UInt8} {n:Nd} {a:Int} (h:jdx what d=(n,a,0)):nest n∧0≤n.at_∧n.en≤(d.length:Int):=by
  unfold jdx at h;split at h
  · injection h with _ h;injection h with _ h;cases h
  · cases hs:jcx true d with
    | error e =>
      rw[hs] at h;injection h with _ h;injection h with _ h;exact absurd h ((jc0 true d).2 e.1 e.2 hs).2
    | ok T =>
      rw[hs] at h;obtain ⟨h1,h2,h3,h4,h5⟩:=top_ok h;obtain ⟨r,hr⟩:=jx (rd T (d.length:Int) (whatN what) ⟨0,none⟩);rw[hr] at h1 h3 h4;obtain ⟨m,⟨j,c⟩⟩:=r;dsimp only at h1 h3;subst h1 h3;obtain ⟨ho,hl⟩:=jni hs;have hrun:=jix ho (run_rd hr)
      have hq:QO T 0 n j:=by
        unfold whatN at hrun;split at hrun
        · exact hrun
        split at hrun<;>exact hrun
      obtain ⟨q1,q2,q3,q4,q5⟩:=hq;have:=jie ho (i:=0) (by omega);have h0:jc2 T 0=0:=rfl;have:=hl j q2;exact ⟨q3,by omega,by omega⟩
end
section
open Go.RowKit
theorem lnested:∀(f:Nat) (n:Nd) (W:World) (ok:Nat→Prop) (v:Value),sizeN n≤f→NdV W ok v n→nest n →
    Calls Tryz.prog 29 #[v] W fun e w'=>e=.returned (.bool true)∧Below W.heap.size W w':=by
  intro f
  induction f with
  | zero=>intro n W ok v h;cases n;rw[sizeN] at h;omega
  | succ f ih =>
    intro n W ok v hf hv hn
    cases hv with
    | mk k a e x B m d vs l hvs hlen hr =>
      have HV:=jj (show NdS W ok B m d l from ⟨vs,hvs,hlen,hr⟩);have Hl:=jj hlen;have hmd:=hvs.1;have hdd:=hvs.2.1;rw[sizeN] at hf;rw[jgl] at hn;have HN:=jj hn;have HB:=jj (jak (Below.refl W.heap.size W) (.cells #[.int .i64 k,.string (bs x),.int .i64 a,.int .i64 e,.slice B m d] 25));have HF:=jj (ja6 W (.int .i64 k) (.string (bs x)) (.int .i64 a) (.int .i64 e) (.slice B m d) 25);have IH:=jj ih;clear hr hvs hlen ih hn;go_enter Tryz.func29,Tryz.ntmps29;go_upto_region 1 with fail;obtain ⟨w1,hW1⟩:=jx (W.alloc (.cells #[.int .i64 k,.string (bs x),.int .i64 a,.int .i64 e,.slice B m d] 25));rw[hW1] at HB HF ⊢;clear hW1;obtain ⟨-,t0,t1,t2,t3,t4⟩:=HF.out;go_wp2_with fail;clear t0 t1 t2 t3 t4
      go_loopw [3,4] (fun u y wr=>∃(i:Nat) (c:Int),i≤m∧u=.int .i64 c∧y=.int .i64 (i:Int)∧jgm c e (l.drop i)∧Below w1.heap.size w1 wr) (fun _ y _=>m - (intOf y).toNat)
      case atStart=>exact ⟨0,a,Nat.zero_le _,rfl,rfl,HN.out,Below.refl _ _⟩
      case round =>
        obtain ⟨i,c,hi,rfl,rfl,hnl,hb⟩:=hrel;obtain ⟨w3,hw3⟩:∃w3,w3=wr:=⟨wr,rfl⟩;subst hw3;have hbw:=bgo HB.out hb;obtain ⟨-,t0,t1,t2,t3,t4⟩:=HF.out.keep hb;by_cases hlt:i<m
        · (have hki:(i:Int)<(m:Int):=by omega);obtain ⟨g,o,y,yA,ym,yd,rfl,hy,ry,x0,x1,x2,x3,x4⟩:=(HV.out.kept hbw).at_ hlt;obtain ⟨h1,e1⟩:=List.getElem?_eq_some_iff.1 hy;rw[List.drop_eq_getElem_cons h1,e1,jcg] at hnl;obtain ⟨hn1,hn2,hn3⟩:=hnl;obtain ⟨-,s2⟩:=jdj hy;have HC:=jj (IH.out y w3 ok _ (by omega) (jb7 ry) hn2);have HN3:=jj hn3;have Hb:=jj hb;(have hn1':¬y.at_<c:=by omega);have HR:=jj (HF.out);have HVg:=jj (fun (W':World) (hb:Below W.heap.size W W')=>(HV.out.kept hb).at_ hlt);have HY:=jj hy;clear hy ry hbw hb s2 hn3 hn2 h1 e1 hf hn1;go_wp2_with fail;(with_reducible refine HC.out.mono ?_);rintro e2 w4 ⟨rfl,hb4⟩;have Hb4:=jj (bgo Hb.out hb4);clear t0 t1 t2 t3 t4 x0 x1 x2 x3 x4;obtain ⟨-,t0,t1,t2,t3,t4⟩:=HF.out.keep Hb4.out;obtain ⟨g',o',y',yA',ym',yd',hgo,hy',-,z0,z1,z2,z3,z4⟩:=HVg.out w4 (bgo HB.out Hb4.out);cases hgo;(obtain rfl:y'=y:=by have h:=HY.out;rw[h] at hy';exact (Option.some.inj hy').symm);clear hb4 hy';go_wp2;go_roundw
          case rel=>exact ⟨i+1,_,by omega,rfl,by go_num,HN3.out,Hb4.out⟩
          case measure=>simp[intOf];omega
        · (have hki:¬(i:Int)<(m:Int):=by omega);rw[List.drop_of_length_le (by rw[Hl.out];omega),jdz] at hnl;have Hb:=jj hbw;clear hb hbw hf;go_wp2;go_ret;exact ⟨rfl,Hb.out⟩
end
section
open Go.RowKit
theorem got_own {W:World} {N:Nd} {p q:Int} {e:Ending} {w':World} (h:jn7 W (N,p,q) e w') :
    ∃A m d,e=.returned (.tuple #[.agg #[.int .i64 N.kind,.string (bs N.text),.int .i64 N.at_,.int .i64 N.en,.slice A m d],.int .i64 p,.int .i64 q])∧NdS w' (fun g=>W.heap.size≤g) A m d N.kids∧Below W.heap.size W w':=by
  obtain ⟨A,m,d,rfl,hv,hb⟩:=h;obtain ⟨-,-,-,-,A2,m2,d2,he,hk⟩:=hv.cells;injection he with h1 h2 h3;subst h1 h2 h3;exact ⟨A,m,d,rfl,hk,hb⟩
theorem law7 (what:Int) (s:ByteArray) (hs:s.size≤9223372036854775807) (w:World):Calls Tryz.prog 7 #[.int .i64 what,.string s] w fun en w'=>en=.returned (.bool true)∧Below w.heap.size w w':=by
  have HA:=jj (jla w);by_cases h3:2000<s.size
  · (have hg:(2000:Int)<(s.size:Int):=by omega);have hg2:(s.size:Int) > 2000:=hg;clear h3;go_enter Tryz.func7,Tryz.ntmps7;go_wp2_with fail;(with_reducible refine HA.out.mono ?_);rintro en w1 ⟨rfl,hb1⟩;have HB1:=jj hb1;clear hb1;go_wp2;go_ret;exact ⟨rfl,HB1.out⟩
  · (have hg:¬(2000:Int)<(s.size:Int):=by omega);have hg2:¬(s.size:Int) > 2000:=hg;have H1:=jj (fun W=>(jjz s (by omega) W));have H2:=jj (fun W=>(jh0 what s (by omega) W));obtain ⟨⟨N,i1,e1⟩,hX⟩:∃X,jdh s.data.toList=X:=⟨_,rfl⟩;obtain ⟨⟨M,i2,e2⟩,hY⟩:∃X,jdx what s.data.toList=X:=⟨_,rfl⟩;rw[hX] at H1;rw[hY] at H2
    have HMD:=jj (show e1=0→nest N∧¬N.at_<0∧¬N.en > (s.size:Int)∧jjv N=true∧sizeN N≤50000∧txN N≤50000 from fun he=>by
      subst he;obtain ⟨h1,h2,h3,h4,h5⟩:=module_nest hX;obtain ⟨h6,h7⟩:=jmy hX;rw[size_list] at h3
      exact ⟨h1,by omega,by omega,by unfold jjv;rw[h4,decide_eq_true h5];rfl,h6,h7⟩)
    have HFR:=jj (show e2=0→nest M∧0≤M.at_∧M.en≤(s.size:Int) from fun he=>by
      subst he;have:=frag_nest hY;rw[size_list] at this
      exact this)
    clear hX hY h3;go_enter Tryz.func7,Tryz.ntmps7;go_wp2_with fail;(with_reducible refine HA.out.mono ?_);rintro en w1 ⟨rfl,hb1⟩;have HB1:=jj hb1;clear hb1;go_wp2_with fail;(with_reducible refine (H1.out _).mono ?_);intro en w2 hgot;obtain ⟨A,m,d,rfl,hk,hb2⟩:=jka hgot;have hb3:=jak hb2 (.cells #[.int .i64 N.kind,.string (bs N.text),.int .i64 N.at_,.int .i64 N.en,.slice A m d] 25);have f3:=jae w2 (.int .i64 N.kind) (.string (bs N.text)) (.int .i64 N.at_) (.int .i64 N.en) (.slice A m d) 25;have k3:=hk.kept (jak (Below.refl _ w2) (.cells #[.int .i64 N.kind,.string (bs N.text),.int .i64 N.at_,.int .i64 N.en,.slice A m d] 25));have hsz:=hb2.size;clear hgot hk hb2;go_upto_region 6 with fail;obtain ⟨w3,hw3⟩:=jx (w2.alloc (.cells #[.int .i64 N.kind,.string (bs N.text),.int .i64 N.at_,.int .i64 N.en,.slice A m d] 25));obtain ⟨p1,hp1⟩:∃p,w2.heap.size=p:=⟨_,rfl⟩;rw[hw3] at hb3 f3 k3 ⊢;rw[hp1] at f3 hsz ⊢;have HPW:=jj (show w.heap.size≤p1 by have:=HB1.out.size;omega);have HP1:=jj f3.1.1;have HB3:=jj (bgo HB1.out hb3);have HFF:=jj (fun X (hX:Below w3.heap.size w3 X)=>f3.keep hX);have K3:=jj k3;obtain ⟨⟨-,t0,t1,t2,t3,t4⟩,-⟩:=f3;clear hb3 k3 hw3 hp1 hsz;by_cases he1:e1=0
    · have r0:(e1==0)=true:=beq_iff_eq.2 he1;obtain ⟨c1,c2,c3,c4,c5,c6⟩:=HMD.out he1;have HS:=jj (lnested (sizeN N) N w3 _ _ (Nat.le_refl _) (jb7 K3.out) c1);have HR:=jj (fun X (hX:Below w3.heap.size w3 X)=>pRight (by omega:sizeN N≤4000000) (by omega:txN N≤2000000) X _ (jb7 (K3.out.kept hX)));rw[c4] at HR;clear he1 c1 c4 c5 c6;go_wp2_with fail;(with_reducible refine HS.out.mono ?_);rintro en w4 ⟨rfl,hb4⟩;have C4:=jj hb4;clear t0 t1 t2 t3 t4;obtain ⟨⟨-,t0,t1,t2,t3,t4⟩,-⟩:=HFF.out _ hb4;clear hb4;go_wp2_with fail;(with_reducible refine (HR.out _ C4.out).mono ?_);rintro en w5 ⟨rfl,hb5⟩;have CC:=jj (bgo C4.out hb5);clear t0 t1 t2 t3 t4 hb5;go_wp2_with fail;(with_reducible refine (H2.out _).mono ?_);intro en w6 hgot;obtain ⟨A',m',d',rfl,hk,hb6⟩:=got_own hgot;have f6:=HFF.out _ CC.out;have f6:=f6.keep hb6;obtain ⟨⟨-,z0,z1,z2,z3,z4⟩,y0,y1,y2,y3,y4⟩:=f6;have f7:=ja3 (HFF.out _ (bgo CC.out hb6)) (.int .i64 M.kind) (.string (bs M.text)) (.int .i64 M.at_) (.int .i64 M.en) (.slice A' m' d');have hp6:=HP1.out;have hsz3:=CC.out.size;have hpw:=HPW.out;have k7:NdS (jex w6 p1 (.int .i64 M.kind) (.string (bs M.text)) (.int .i64 M.at_) (.int .i64 M.en) (.slice A' m' d')) (fun g=>w5.heap.size≤g) A' m' d' M.kids:=hk.map (fun q hq _=>jd1 (by omega)) fun g h _=>h;have hb7:Below w.heap.size w (jex w6 p1 (.int .i64 M.kind) (.string (bs M.text)) (.int .i64 M.at_) (.int .i64 M.en) (.slice A' m' d')):=jaj (HB3.out.trans ((bgo CC.out hb6).mono HB3.out.size)) (by omega);obtain ⟨w7,hw7⟩:=jx (jex w6 p1 (.int .i64 M.kind) (.string (bs M.text)) (.int .i64 M.at_) (.int .i64 M.en) (.slice A' m' d'));rw[hw7] at f7 k7 hb7;unfold jex at hw7;have HW7:=jj hw7;have K7:=jj k7;have HB7:=jj hb7;have F7:=jj f7;clear hgot hk hb6 hw7 k7 hb7 f7 hp6 hsz3 hpw;go_upto_region 9 with fail;rw[HW7.out];clear z0 z1 z2 z3 z4 y0 y1 y2 y3 y4;obtain ⟨-,z0,z1,z2,z3,z4⟩:=F7.out;by_cases he2:e2=0
      · have r1:(e2 != 0)=false:=jje he2;obtain ⟨c1,c2,c3⟩:=HFR.out he2;have c2':M.at_≥0:=c2;have c3':M.en≤(s.size:Int):=c3;have HS:=jj (lnested (sizeN M) M w7 _ _ (Nat.le_refl _) (jb7 K7.out) c1);clear he2 c1;go_wp2_with fail;(with_reducible refine HS.out.mono ?_);rintro en w8 ⟨rfl,hb8⟩;have HB8:=jj (bgo HB7.out hb8);clear hb8;go_wp2;go_ret;exact ⟨rfl,HB8.out⟩
      · have r1:(e2 != 0)=true:=jjd he2;clear he2;go_wp2;go_ret;exact ⟨rfl,HB7.out⟩
    · have r0:(e1==0)=false:=beq_eq_false_iff_ne.2 he1;have CC:=jj (Below.refl w3.heap.size w3);clear he1;go_wp2_with fail;(with_reducible refine (H2.out _).mono ?_);intro en w6 hgot;obtain ⟨A',m',d',rfl,hk,hb6⟩:=got_own hgot;have f6:=HFF.out _ CC.out;have f6:=f6.keep hb6;obtain ⟨⟨-,z0,z1,z2,z3,z4⟩,y0,y1,y2,y3,y4⟩:=f6;have f7:=ja3 (HFF.out _ (bgo CC.out hb6)) (.int .i64 M.kind) (.string (bs M.text)) (.int .i64 M.at_) (.int .i64 M.en) (.slice A' m' d');have hp6:=HP1.out;have hsz3:=CC.out.size;have hpw:=HPW.out;have k7:NdS (jex w6 p1 (.int .i64 M.kind) (.string (bs M.text)) (.int .i64 M.at_) (.int .i64 M.en) (.slice A' m' d')) (fun g=>w3.heap.size≤g) A' m' d' M.kids:=hk.map (fun q hq _=>jd1 (by omega)) fun g h _=>h;have hb7:Below w.heap.size w (jex w6 p1 (.int .i64 M.kind) (.string (bs M.text)) (.int .i64 M.at_) (.int .i64 M.en) (.slice A' m' d')):=jaj (HB3.out.trans ((bgo CC.out hb6).mono HB3.out.size)) (by omega);obtain ⟨w7,hw7⟩:=jx (jex w6 p1 (.int .i64 M.kind) (.string (bs M.text)) (.int .i64 M.at_) (.int .i64 M.en) (.slice A' m' d'));rw[hw7] at f7 k7 hb7;unfold jex at hw7;have HW7:=jj hw7;have K7:=jj k7;have HB7:=jj hb7;have F7:=jj f7;clear hgot hk hb6 hw7 k7 hb7 f7 hp6 hsz3 hpw;go_upto_region 9 with fail;rw[HW7.out];clear z0 z1 z2 z3 z4 y0 y1 y2 y3 y4;obtain ⟨-,z0,z1,z2,z3,z4⟩:=F7.out;by_cases he2:e2=0
      · have r1:(e2 != 0)=false:=jje he2;obtain ⟨c1,c2,c3⟩:=HFR.out he2;have c2':M.at_≥0:=c2;have c3':M.en≤(s.size:Int):=c3;have HS:=jj (lnested (sizeN M) M w7 _ _ (Nat.le_refl _) (jb7 K7.out) c1);clear he2 c1;go_wp2_with fail;(with_reducible refine HS.out.mono ?_);rintro en w8 ⟨rfl,hb8⟩;have HB8:=jj (bgo HB7.out hb8);clear hb8;go_wp2;go_ret;exact ⟨rfl,HB8.out⟩
      · have r1:(e2 != 0)=true:=jjd he2;clear he2;go_wp2;go_ret;exact ⟨rfl,HB7.out⟩
end
end Go.Proofs.YtonoklmobocikaaGreatDoor
