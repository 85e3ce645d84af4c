/- Lemmas. -/
import Derived.Test.YtonoklmobocikaaGreatDoorK64
set_option linter.unusedVariables false
set_option linter.unusedSimpArgs false
set_option maxRecDepth 20000
set_option maxHeartbeats 6400000
namespace Go.Proofs.YtonoklmobocikaaGreatDoor
section
section
variable (T:List Tk) (len:Int)
def goP (nt:NT) (s:Ps):Got:=some (rd T len nt s)
end
variable {T:List Tk} {len:Int}
theorem rd_fix (nt:NT) (s:Ps):jbo T len (goP T len) nt s=some (rd T len nt s):=by
  have h:=jg7 (T:=T) (len:=len) nt s;have h:jbo T len (jaw T len (jcj T nt s)) nt s=some (rd T len nt s):=h;exact body_mono T len (fun nt s r hr=>by rw[←rd_eq hr];rfl) nt s _ h
theorem jdi {nt:NT} {s:Ps} {r:Nd × Ps} (h:jbo T len (goP T len) nt s=some r):rd T len nt s=r:=by
  rw[rd_fix] at h;exact Option.some.inj h
theorem jbd {i:Nat} {k:Int} {x:List UInt8} (h:jce T i k x=true) (k':Int) (x':List UInt8):jce T i k' x'=(k==k' && x==x'):=by
  obtain ⟨h1,h2⟩:=jbj h;unfold jce;rw[h1,h2]
theorem jd7 {i:Nat} {k:Int} (h:kAt T i=k) (k':Int) (x':List UInt8) (hk:k≠k'):jce T i k' x'=false:=by
  unfold jce;rw[h,beq_eq_false_iff_ne.2 hk];try rfl
theorem jbr {i:Nat} (b:Option Int) (h:i<T.length):jaq T len ⟨i,b⟩=atT T i:=by
  unfold jaq atT;dsimp only;rw[List.getElem?_eq_getElem h]
theorem semi_ok (i:Nat):jiw T ⟨i,none⟩=jlh T i:=by
  unfold jiw jlh jce kAt xAt;dsimp only
  cases T[i+1]? with
  | none=>rfl
  | some t=>rfl
theorem runZ {r:RN} {i:Nat} {n:Nd} {j:Nat} (h:Run T r i n j):i<j→i<T.length:=by
  induction h with
  | @imp0 i h0  => intro hlt;exact by omega
  | @imp1 i j l h0 h1 h2 h3 i3=>intro hlt;exact jb9 (by first | assumption | decide) h0
  | @decls0 i h0  => intro hlt;exact by omega
  | @decls1 i k j n l h0 h1 h2 i1 i2=>intro hlt;exact h0
  | @declC i j n h0 h1 i1=>intro hlt;exact jb9 (by first | assumption | decide) h0
  | @declI i j n h0 h1 h2 i2=>intro hlt;exact jb9 (by first | assumption | decide) h1
  | @declF i j n h0 h1 h2 h3 i3=>intro hlt;exact jb9 (by first | assumption | decide) h2
  | @declV i j n h0 h1 h2 h3 i3=>intro hlt;exact i3 (by have:=jb1 h3;simp only[jdp] at this;omega)
  | @classD i k m q e b l h0 h1 h2 h3 h4 h5 h6 i2 i3 i5=>intro hlt;exact jb9 (by first | assumption | decide) h0
  | @ifaceD i m q b l h0 h1 h2 h3 h4 h5 i2 i4=>intro hlt;exact jb9 (by first | assumption | decide) h0
  | @mem0 c i h0  => intro hlt;exact jb9 (by first | assumption | decide) h0
  | @mem1 c i j l h0 h1 h2 i2=>intro hlt;exact jbf (by rcases h0 with h | h<;>rw[h]<;>decide)
  | @mem2 c i k j n l h0 h1 h2 i1 i2=>intro hlt;exact jb9 (by first | assumption | decide) h0
  | @mem3 i k j n l h0 h1 h2 h3 i2 i3=>intro hlt;exact i2 (by have:=jb1 h2;simp only[jdp] at this;omega)
  | @funcD b i k m j a e c h0 h1 h2 h3 h4 h5 h6 i3 i5 i6=>intro hlt;exact jb9 (by first | assumption | decide) h0
  | @blk1 i j n h0 i0=>intro hlt;exact i0 (by have:=jb1 h0;simp only[jdp] at this;omega)
  | @blk0 i h0  => intro hlt;exact jb9 (by first | assumption | decide) h0
  | @params0 f i h0  => intro hlt;exact jb9 (by first | assumption | decide) h0
  | @params1 i k j n l h0 h1 h2 i1 i2=>intro hlt;exact i1 (by have:=jb1 h1;simp only[jdp] at this;omega)
  | @params2 i k j n l h0 h1 h2 i1 i2=>intro hlt;exact jb9 (by first | assumption | decide) h0
  | @param0 i h0  => intro hlt;exact jbf (by rw[h0];decide)
  | @param1 i j t h0 h1 h2 i2=>intro hlt;exact jbf (by rw[h0];decide)
  | @varD i k m t l h0 h1 h2 h3 h4 h5 i3 i4=>intro hlt;exact jb9 (by first | assumption | decide) h0
  | @typM i h0  => intro hlt;exact jbf (by rw[h0];decide)
  | @typ1 i h0 h1  => intro hlt;exact jbf (by rw[h0];decide)
  | @typ2 i h0 h1 h2  => intro hlt;exact jbf (by rw[h0];decide)
  | @elem0 i h0  => intro hlt;exact jbf (by rw[h0];decide)
  | @elem1 i j n h0 h1 i1=>intro hlt;exact i1 (by have:=jb1 h1;simp only[jdp] at this;omega)
  | @types0 i j n h0 h1 i0=>intro hlt;exact i0 (by have:=jb1 h0;simp only[jdp] at this;omega)
  | @types1 i k j n l h0 h1 h2 i0 i2=>intro hlt;exact i0 (by have:=jb1 h0;simp only[jdp] at this;omega)
  | @optTyp0 k x i h0 h1  => intro hlt;exact by omega
  | @optTyp1 k x i j n h0 h1 h2 i2=>intro hlt;exact jb9 (by first | assumption | decide) h1
  | @optTypes0 x i h0  => intro hlt;exact by omega
  | @optTypes1 x i j n h0 h1 i1=>intro hlt;exact jb9 (by first | assumption | decide) h0
  | @optInit0 i h0  => intro hlt;exact by omega
  | @optInit1 i j n h0 h1 i1=>intro hlt;exact jb9 (by first | assumption | decide) h0
  | @block i j l h0 h1 h2 i1=>intro hlt;exact jb9 (by first | assumption | decide) h0
  | @stmts0 i h0  => intro hlt;exact jb9 (by first | assumption | decide) h0
  | @stmts1 i k j n l h0 h1 h2 i1 i2=>intro hlt;exact i1 (by have:=jb1 h1;simp only[jdp] at this;omega)
  | @stmtM i h0 h1  => intro hlt;exact jbf (by rcases h0 with h | h<;>rw[h]<;>decide)
  | @stmtV i j n h0 h1 i1=>intro hlt;exact jb9 (by first | assumption | decide) h0
  | @stmtB i j n h0 h1 i1=>intro hlt;exact jb9 (by first | assumption | decide) h0
  | @stmtR i j l h0 h1 h2 i1=>intro hlt;exact jb9 (by first | assumption | decide) h0
  | @stmtI i k m j c a b h0 h1 h2 h3 i1 i2 i3=>intro hlt;exact jb9 (by first | assumption | decide) h0
  | @stmtW i k j c a h0 h1 h2 i1 i2=>intro hlt;exact jb9 (by first | assumption | decide) h0
  | @stmtA i k j a b h0 h1 h2 h3 h4 h5 h6 h7 h8 h9 i6 i8=>intro hlt;exact i6 (by have:=jb1 h6;simp only[jdp] at this;omega)
  | @stmtD i j a h0 h1 h2 h3 h4 h5 h6 h7 h8 i6=>intro hlt;exact i6 (by have:=jb1 h6;simp only[jdp] at this;omega)
  | @optExpr0 i h0  => intro hlt;exact jb9 (by first | assumption | decide) h0
  | @optExpr1 i j n h0 h1 i1=>intro hlt;exact i1 (by have:=jb1 h1;simp only[jdp] at this;omega)
  | @optElse0 i h0  => intro hlt;exact by omega
  | @optElse1 i j n h0 h1 i1=>intro hlt;exact jb9 (by first | assumption | decide) h0
  | @cond i j n h0 h1 h2 i1=>intro hlt;exact jb9 (by first | assumption | decide) h0
  | @expr lvl i k j n m h0 h1 h2 i1 i2=>intro hlt;exact i1 (by have:=jb1 h1;simp only[jdp] at this;omega)
  | @exprU lvl i j n h0 h1 i1=>intro hlt;exact i1 (by have:=jb1 h1;simp only[jdp] at this;omega)
  | @bin0 lvl i n h0  => intro hlt;exact by omega
  | @bin1 lvl i k j n b m h0 h1 h2 i1 i2=>intro hlt;exact by obtain ⟨x,_,h1,_⟩:=op_in (T:=T) (s:=⟨i,none⟩) (show opP T lvl ⟨i,none⟩≠[] from h0);exact jb9 (by decide) (show jce T i 5 x=true from h1)
  | @unary1 i j a h0 h1 i1=>intro hlt;exact by rcases h0 with h | h<;>exact jb9 (by decide) h
  | @unary2 i k j n m h0 h1 h2 h3 i2 i3=>intro hlt;exact i2 (by have:=jb1 h2;simp only[jdp] at this;omega)
  | @post0 i n h0 h1  => intro hlt;exact by omega
  | @post1 i j n m h0 h1 h2 i2=>intro hlt;exact jb9 (by first | assumption | decide) h0
  | @post2 i k j n a m h0 h1 h2 i1 i2=>intro hlt;exact jb9 (by first | assumption | decide) h0
  | @args i j l h0 h1 i0=>intro hlt;exact (by
      by_cases hh:i<j
      · exact i0 hh
      · have:=jb1 h0;simp only[jdp] at this;obtain rfl:i=j:=by omega
        exact jb9 (by decide) h1)
  | @argsL0 f i h0  => intro hlt;exact jb9 (by first | assumption | decide) h0
  | @argsL1 i k j n l h0 h1 h2 i1 i2=>intro hlt;exact i1 (by have:=jb1 h1;simp only[jdp] at this;omega)
  | @argsL2 i k j n l h0 h1 h2 i1 i2=>intro hlt;exact jb9 (by first | assumption | decide) h0
  | @arg0 i h0  => intro hlt;exact jbf (by rw[h0];decide)
  | @arg1 i j n h0 h1 i1=>intro hlt;exact i1 (by have:=jb1 h1;simp only[jdp] at this;omega)
  | @leaf i q h0  => intro hlt;exact jbf (by rcases h0 with h | h | h<;>rw[h.1]<;>decide)
  | @primM i h0  => intro hlt;exact jbf (by rw[h0];decide)
  | @new1 i j l h0 h1 h2 h3 h4 i4=>intro hlt;exact jb9 (by first | assumption | decide) h0
  | @new2 i j l h0 h1 h2 h3 h4 h5 i5=>intro hlt;exact jb9 (by first | assumption | decide) h0
  | @const i h0 h1 h2  => intro hlt;exact jbf (by rw[h1];decide)
  | @paren i j n h0 h1 h2 i1=>intro hlt;exact jb9 (by first | assumption | decide) h0
def CQ (T:List Tk) (len:Int):RN→Nat→Nd→Nat→Prop
  | .n nt,i,n,j=>rd T len nt ⟨i,none⟩=(n,⟨j,none⟩)
  | .typ,i,n,j=>jel T len ⟨i,none⟩=(n,⟨j,none⟩)
  | .param,i,n,j=>jdm T len ⟨i,none⟩=(n,⟨j,none⟩)
  | .elem,i,n,j=>(if kAt T i=7 then jco T len false ⟨i,none⟩ else jel T len ⟨i,none⟩)=(n,⟨j,none⟩)
  | .arg,i,n,j=>(if kAt T i=7 then some (jco T len false ⟨i,none⟩) else goP T len (.expr 0) ⟨i,none⟩)=some (n,⟨j,none⟩)
  | .optTyp k x,i,n,j=>(if jce T i k x=true then ([(jel T len ⟨i+1,none⟩).1],(jel T len ⟨i+1,none⟩).2) else ([],⟨i,none⟩))=(n.kids,⟨j,none⟩)
  | .optTypes x,i,n,j=>(if jce T i 2 x=true then goP T len .types ⟨i+1,none⟩ else some (je8,⟨i,none⟩))=some (n,⟨j,none⟩)
  | .optInit,i,n,j=>(if jce T i 5 [61]=true then thenP (goP T len (.expr 0) ⟨i+1,none⟩) fun n s5=>some (jdo [n],s5) else some (je8,⟨i,none⟩))=some (n,⟨j,none⟩)
  | .optExpr,i,n,j=>(if jce T i 5 [59]=true then some (je8,⟨i,none⟩) else thenP (goP T len (.expr 0) ⟨i,none⟩) fun n s2=>some (jdo [n],s2))=some (n,⟨j,none⟩)
  | .optElse,i,n,j=>(if jce T i 2 jlc=true then thenP (goP T len .block ⟨i+1,none⟩) fun b s5=>some (jdo [b],s5) else some (je8,⟨i,none⟩))=some (n,⟨j,none⟩)
  | .blk b,i,n,j=>(if b=true then thenP (goP T len .block ⟨i,none⟩) fun c s7=>some (jdo [c],s7) else some (je8,jab T len 5 [59] ⟨i,none⟩))=some (n,⟨j,none⟩)
theorem jaa (i:Nat):jbb ⟨i,none⟩=⟨i+1,none⟩:=rfl
theorem jav (q:Int) (x:List UInt8) (a:Int) (l:List Nd) (j:Nat):je3 T q x a l ⟨j,none⟩=.mk q x a (jc2 T j) l:=rfl
theorem jah (n:Nd) (s:Ps) (k:Nd→Ps→Got):thenP (some (n,s)) k=k n s:=rfl
theorem rd_run {r:RN} {i:Nat} {n:Nd} {j:Nat} (h:Run T r i n j):CQ T len r i n j:=by
  induction h with
  | @imp0 i h0  =>
    refine jdi ?_;simp[Nat.add_assoc,jbo,jah,goP,jay,jan,jbe,jby,jas,jab,jai,jaa,jav,nd,jfi,h0]
  | @imp1 i j l h0 h1 h2 h3 i3 =>
    have f0:=jbd h0;have g0:=(jbj h0).1;have f1:=jd7 h1;have f2:=jbd h2;have g2:=(jbj h2).1;simp only[CQ,goP,Nat.add_assoc,Nat.reduceAdd,jab,jay,jaa] at i3;have hf:∀b,jaq T len ⟨i,b⟩=atT T i:=fun b=>jbr b (jbf (by rw[g0];decide));refine jdi ?_;simp[Nat.add_assoc,jbo,jah,goP,jay,jan,jbe,jby,jas,jab,jai,jaa,jav,nd,jfi,f0,g0,f1,h1,f2,g2,i3,hf]
  | @decls0 i h0  =>
    refine jdi ?_;simp[Nat.add_assoc,jbo,jah,goP,jay,jan,jbe,jby,jas,jab,jai,jaa,jav,nd,jip,h0]
  | @decls1 i k j n l h0 h1 h2 i1 i2 =>
    simp only[CQ,goP,Nat.add_assoc,Nat.reduceAdd,jab,jay,jaa] at i1;simp only[CQ,goP,Nat.add_assoc,Nat.reduceAdd,jab,jay,jaa] at i2;(have h0':¬T.length≤i:=by omega);refine jdi ?_;simp[Nat.add_assoc,jbo,jah,goP,jay,jan,jbe,jby,jas,jab,jai,jaa,jav,nd,jip,h0,i1,i2,h0']
  | @declC i j n h0 h1 i1 =>
    have f0:=jbd h0;have g0:=(jbj h0).1;simp only[CQ,goP,Nat.add_assoc,Nat.reduceAdd,jab,jay,jaa] at i1;have hf:∀b,jaq T len ⟨i,b⟩=atT T i:=fun b=>jbr b (jbf (by rw[g0];decide));refine jdi ?_;simp[Nat.add_assoc,jbo,jah,goP,jay,jan,jbe,jby,jas,jab,jai,jaa,jav,nd,jl8,f0,g0,i1,hf]
  | @declI i j n h0 h1 h2 i2 =>
    have f1:=jbd h1;have g1:=(jbj h1).1;simp only[CQ,goP,Nat.add_assoc,Nat.reduceAdd,jab,jay,jaa] at i2;have hf:∀b,jaq T len ⟨i,b⟩=atT T i:=fun b=>jbr b (jbf (by rw[g1];decide));refine jdi ?_;simp[Nat.add_assoc,jbo,jah,goP,jay,jan,jbe,jby,jas,jab,jai,jaa,jav,nd,jl8,h0,f1,g1,i2,hf]
  | @declF i j n h0 h1 h2 h3 i3 =>
    have f2:=jbd h2;have g2:=(jbj h2).1;simp only[CQ,goP,Nat.add_assoc,Nat.reduceAdd,jab,jay,jaa] at i3;have hf:∀b,jaq T len ⟨i,b⟩=atT T i:=fun b=>jbr b (jbf (by rw[g2];decide));refine jdi ?_;simp[Nat.add_assoc,jbo,jah,goP,jay,jan,jbe,jby,jas,jab,jai,jaa,jav,nd,jl8,h0,h1,f2,g2,i3,hf]
  | @declV i j n h0 h1 h2 h3 i3 =>
    simp only[CQ,goP,Nat.add_assoc,Nat.reduceAdd,jab,jay,jaa] at i3;refine jdi ?_;simp[Nat.add_assoc,jbo,jah,goP,jay,jan,jbe,jby,jas,jab,jai,jaa,jav,nd,jl8,h0,h1,h2,i3]
  | @classD i k m q e b l h0 h1 h2 h3 h4 h5 h6 i2 i3 i5 =>
    have f0:=jbd h0;have g0:=(jbj h0).1;have f1:=jd7 h1;simp only[CQ,goP,Nat.add_assoc,Nat.reduceAdd,jab,jay,jaa] at i2;simp only[CQ,goP,Nat.add_assoc,Nat.reduceAdd,jab,jay,jaa] at i3;have f4:=jbd h4;have g4:=(jbj h4).1;simp only[CQ,goP,Nat.add_assoc,Nat.reduceAdd,jab,jay,jaa] at i5;have f6:=jbd h6;have g6:=(jbj h6).1;have hf:∀b,jaq T len ⟨i,b⟩=atT T i:=fun b=>jbr b (jbf (by rw[g0];decide));refine jdi ?_;simp[Nat.add_assoc,jbo,jah,goP,jay,jan,jbe,jby,jas,jab,jai,jaa,jav,nd,jjg,jjl,f0,g0,f1,h1,i2,i3,f4,g4,i5,f6,g6,hf]
  | @ifaceD i m q b l h0 h1 h2 h3 h4 h5 i2 i4 =>
    have f0:=jbd h0;have g0:=(jbj h0).1;have f1:=jd7 h1;simp only[CQ,goP,Nat.add_assoc,Nat.reduceAdd,jab,jay,jaa] at i2;have f3:=jbd h3;have g3:=(jbj h3).1;simp only[CQ,goP,Nat.add_assoc,Nat.reduceAdd,jab,jay,jaa] at i4;have f5:=jbd h5;have g5:=(jbj h5).1;have hf:∀b,jaq T len ⟨i,b⟩=atT T i:=fun b=>jbr b (jbf (by rw[g0];decide));refine jdi ?_;simp[Nat.add_assoc,jbo,jah,goP,jay,jan,jbe,jby,jas,jab,jai,jaa,jav,nd,jjf,jjl,f0,g0,f1,h1,i2,f3,g3,i4,f5,g5,hf]
  | @mem0 c i h0  =>
    have f0:=jbd h0;have g0:=(jbj h0).1;have hf:∀b,jaq T len ⟨i,b⟩=atT T i:=fun b=>jbr b (jbf (by rw[g0];decide));refine jdi ?_;simp[Nat.add_assoc,jbo,jah,goP,jay,jan,jbe,jby,jas,jab,jai,jaa,jav,nd,jev,f0,g0,hf]
  | @mem1 c i j l h0 h1 h2 i2 =>
    have f1:=jbd h1;have g1:=(jbj h1).1;simp only[CQ,goP,Nat.add_assoc,Nat.reduceAdd,jab,jay,jaa] at i2;have hf:∀b,jaq T len ⟨i,b⟩=atT T i:=fun b=>jbr b (jbf (by rcases h0 with h | h<;>rw[h]<;>decide));refine jdi ?_;rcases h0 with h0 | h0<;>(have f0:=jd7 h0;simp[Nat.add_assoc,jbo,jah,goP,jay,jan,jbe,jby,jas,jab,jai,jaa,jav,nd,jev,jco,f1,g1,i2,h0,f0,hf])
  | @mem2 c i k j n l h0 h1 h2 i1 i2 =>
    have f0:=jbd h0;have g0:=(jbj h0).1;simp only[CQ,goP,Nat.add_assoc,Nat.reduceAdd,jab,jay,jaa] at i1;simp only[CQ,goP,Nat.add_assoc,Nat.reduceAdd,jab,jay,jaa] at i2;have hf:∀b,jaq T len ⟨i,b⟩=atT T i:=fun b=>jbr b (jbf (by rw[g0];decide));refine jdi ?_;simp[Nat.add_assoc,jbo,jah,goP,jay,jan,jbe,jby,jas,jab,jai,jaa,jav,nd,jev,f0,g0,i1,i2,hf]
  | @mem3 i k j n l h0 h1 h2 h3 i2 i3 =>
    simp only[CQ,goP,Nat.add_assoc,Nat.reduceAdd,jab,jay,jaa] at i2;simp only[CQ,goP,Nat.add_assoc,Nat.reduceAdd,jab,jay,jaa] at i3;(have f2:kAt T i=2:=by cases h2;exact (jbj (by assumption)).1);refine jdi ?_;simp[Nat.add_assoc,jbo,jah,goP,jay,jan,jbe,jby,jas,jab,jai,jaa,jav,nd,jev,h0,h1,i2,i3,f2]
  | @funcD b i k m j a e c h0 h1 h2 h3 h4 h5 h6 i3 i5 i6 =>
    have f0:=jbd h0;have g0:=(jbj h0).1;have f1:=jd7 h1;have f2:=jbd h2;have g2:=(jbj h2).1;simp only[CQ,goP,Nat.add_assoc,Nat.reduceAdd,jab,jay,jaa] at i3;have f4:=jbd h4;have g4:=(jbj h4).1;simp only[CQ,goP,Nat.add_assoc,Nat.reduceAdd,jab,jay,jaa] at i5;simp only[CQ,goP,Nat.add_assoc,Nat.reduceAdd,jab,jay,jaa] at i6;have hf:∀b,jaq T len ⟨i,b⟩=atT T i:=fun b=>jbr b (jbf (by rw[g0];decide));refine jdi ?_
    cases h6 with
    | blk0 hp =>
      simp[Nat.add_assoc,jbo,jah,goP,jay,jan,jbe,jby,jas,jab,jai,jaa,jav,nd,jl6,f0,g0,f1,h1,f2,g2,i3,f4,g4,i5,hf,hp]
    | blk1 hr =>
      rw[if_pos rfl] at i6;obtain ⟨m',s',e1,e2⟩:=ja2.1 i6;obtain ⟨e3,rfl⟩:=jaz e2;have e1:=Option.some.inj e1;simp only[jdo,Nd.mk.injEq,List.cons.injEq,and_true,true_and] at e3;subst e3;simp[Nat.add_assoc,jbo,jah,goP,jay,jan,jbe,jby,jas,jab,jai,jaa,jav,nd,jl6,f0,g0,f1,h1,f2,g2,i3,f4,g4,i5,hf,e1]
  | @blk1 i j n h0 i0 =>
    simp only[CQ,goP,Nat.add_assoc,Nat.reduceAdd,jab,jay,jaa] at i0;simp only[CQ,goP];simp[Nat.add_assoc,jbo,jah,goP,jay,jan,jbe,jby,jas,jab,jai,jaa,jav,nd,i0]
  | @blk0 i h0  =>
    have f0:=jbd h0;have g0:=(jbj h0).1;have hf:∀b,jaq T len ⟨i,b⟩=atT T i:=fun b=>jbr b (jbf (by rw[g0];decide));simp only[CQ,goP];simp[Nat.add_assoc,jbo,jah,goP,jay,jan,jbe,jby,jas,jab,jai,jaa,jav,nd,f0,g0,hf]
  | @params0 f i h0  =>
    have f0:=jbd h0;have g0:=(jbj h0).1;have hf:∀b,jaq T len ⟨i,b⟩=atT T i:=fun b=>jbr b (jbf (by rw[g0];decide));refine jdi ?_;simp[Nat.add_assoc,jbo,jah,goP,jay,jan,jbe,jby,jas,jab,jai,jaa,jav,nd,jfl,f0,g0,hf]
  | @params1 i k j n l h0 h1 h2 i1 i2 =>
    simp only[CQ,goP,Nat.add_assoc,Nat.reduceAdd,jab,jay,jaa] at i1;simp only[CQ,goP,Nat.add_assoc,Nat.reduceAdd,jab,jay,jaa] at i2;refine jdi ?_;simp[Nat.add_assoc,jbo,jah,goP,jay,jan,jbe,jby,jas,jab,jai,jaa,jav,nd,jfl,h0,i1,i2]
  | @params2 i k j n l h0 h1 h2 i1 i2 =>
    have f0:=jbd h0;have g0:=(jbj h0).1;simp only[CQ,goP,Nat.add_assoc,Nat.reduceAdd,jab,jay,jaa] at i1;simp only[CQ,goP,Nat.add_assoc,Nat.reduceAdd,jab,jay,jaa] at i2;have hf:∀b,jaq T len ⟨i,b⟩=atT T i:=fun b=>jbr b (jbf (by rw[g0];decide));refine jdi ?_;simp[Nat.add_assoc,jbo,jah,goP,jay,jan,jbe,jby,jas,jab,jai,jaa,jav,nd,jfl,f0,g0,i1,i2,hf]
  | @param0 i h0  =>
    have f0:=jd7 h0;have hf:∀b,jaq T len ⟨i,b⟩=atT T i:=fun b=>jbr b (jbf (by rw[h0];decide));simp only[CQ,goP];simp[Nat.add_assoc,jbo,jah,goP,jay,jan,jbe,jby,jas,jab,jai,jaa,jav,nd,jdm,jco,f0,h0,hf]
  | @param1 i j t h0 h1 h2 i2 =>
    have f0:=jd7 h0;have f1:=jbd h1;have g1:=(jbj h1).1;simp only[CQ,goP,Nat.add_assoc,Nat.reduceAdd,jab,jay,jaa] at i2;have hf:∀b,jaq T len ⟨i,b⟩=atT T i:=fun b=>jbr b (jbf (by rw[h0];decide));simp only[CQ,goP];simp[Nat.add_assoc,jbo,jah,goP,jay,jan,jbe,jby,jas,jab,jai,jaa,jav,nd,jdm,f0,h0,f1,g1,i2,hf]
  | @varD i k m t l h0 h1 h2 h3 h4 h5 i3 i4 =>
    have f0:=jbd h0;have g0:=(jbj h0).1;have f1:=jd7 h1;have f2:=jbd h2;have g2:=(jbj h2).1;simp only[CQ,goP,Nat.add_assoc,Nat.reduceAdd,jab,jay,jaa] at i3;simp only[CQ,goP,Nat.add_assoc,Nat.reduceAdd,jab,jay,jaa] at i4;have f5:=jbd h5;have g5:=(jbj h5).1;have hf:∀b,jaq T len ⟨i,b⟩=atT T i:=fun b=>jbr b (jbf (by rw[g0];decide));refine jdi ?_;simp[Nat.add_assoc,jbo,jah,goP,jay,jan,jbe,jby,jas,jab,jai,jaa,jav,nd,bVar,f0,g0,f1,h1,f2,g2,i3,i4,f5,g5,hf]
  | @typM i h0  =>
    have f0:=jd7 h0;have hf:∀b,jaq T len ⟨i,b⟩=atT T i:=fun b=>jbr b (jbf (by rw[h0];decide));simp only[CQ,goP];simp[Nat.add_assoc,jbo,jah,goP,jay,jan,jbe,jby,jas,jab,jai,jaa,jav,nd,jel,jco,f0,h0,hf]
  | @typ1 i h0 h1  =>
    have f0:=jd7 h0;have hf:∀b,jaq T len ⟨i,b⟩=atT T i:=fun b=>jbr b (jbf (by rw[h0];decide));simp only[CQ,goP];simp[Nat.add_assoc,jbo,jah,goP,jay,jan,jbe,jby,jas,jab,jai,jaa,jav,nd,jel,jes,f0,h0,h1,hf]
  | @typ2 i h0 h1 h2  =>
    have f0:=jd7 h0;have f1:=jbd h1;have g1:=(jbj h1).1;have f2:=jd7 h2;have hf:∀b,jaq T len ⟨i,b⟩=atT T i:=fun b=>jbr b (jbf (by rw[h0];decide));simp only[CQ,goP];simp[Nat.add_assoc,jbo,jah,goP,jay,jan,jbe,jby,jas,jab,jai,jaa,jav,nd,jel,jes,f0,h0,f1,g1,f2,h2,hf]
  | @elem0 i h0  =>
    have f0:=jd7 h0;have hf:∀b,jaq T len ⟨i,b⟩=atT T i:=fun b=>jbr b (jbf (by rw[h0];decide));simp only[CQ,goP];simp[Nat.add_assoc,jbo,jah,goP,jay,jan,jbe,jby,jas,jab,jai,jaa,jav,nd,jco,f0,h0,hf]
  | @elem1 i j n h0 h1 i1 =>
    simp only[CQ,goP,Nat.add_assoc,Nat.reduceAdd,jab,jay,jaa] at i1;simp only[CQ,goP];simp[Nat.add_assoc,jbo,jah,goP,jay,jan,jbe,jby,jas,jab,jai,jaa,jav,nd,h0,i1]
  | @types0 i j n h0 h1 i0 =>
    simp only[CQ,goP,Nat.add_assoc,Nat.reduceAdd,jab,jay,jaa] at i0;refine jdi ?_;by_cases h7:kAt T i=7
    · rw[if_pos h7] at i0;simp[Nat.add_assoc,jbo,jah,goP,jay,jan,jbe,jby,jas,jab,jai,jaa,jav,nd,jh8,i0,h1,h7]
    · rw[if_neg h7] at i0;simp[Nat.add_assoc,jbo,jah,goP,jay,jan,jbe,jby,jas,jab,jai,jaa,jav,nd,jh8,i0,h1,h7]
  | @types1 i k j n l h0 h1 h2 i0 i2 =>
    simp only[CQ,goP,Nat.add_assoc,Nat.reduceAdd,jab,jay,jaa] at i0;have f1:=jbd h1;have g1:=(jbj h1).1;simp only[CQ,goP,Nat.add_assoc,Nat.reduceAdd,jab,jay,jaa] at i2;refine jdi ?_;by_cases h7:kAt T i=7
    · rw[if_pos h7] at i0;simp[Nat.add_assoc,jbo,jah,goP,jay,jan,jbe,jby,jas,jab,jai,jaa,jav,nd,jh8,i0,f1,g1,i2,h7]
    · rw[if_neg h7] at i0;simp[Nat.add_assoc,jbo,jah,goP,jay,jan,jbe,jby,jas,jab,jai,jaa,jav,nd,jh8,i0,f1,g1,i2,h7]
  | @optTyp0 k x i h0 h1  =>
    simp only[CQ,goP];simp[Nat.add_assoc,jbo,jah,goP,jay,jan,jbe,jby,jas,jab,jai,jaa,jav,nd,h0,h1,jdo,je8,Nd.kids]
  | @optTyp1 k x i j n h0 h1 h2 i2 =>
    have f1:=jbd h1;have g1:=(jbj h1).1;simp only[CQ,goP,Nat.add_assoc,Nat.reduceAdd,jab,jay,jaa] at i2;simp only[CQ,goP];simp[Nat.add_assoc,jbo,jah,goP,jay,jan,jbe,jby,jas,jab,jai,jaa,jav,nd,h0,f1,g1,i2,jdo,je8,Nd.kids]
  | @optTypes0 x i h0  =>
    simp only[CQ,goP];simp[Nat.add_assoc,jbo,jah,goP,jay,jan,jbe,jby,jas,jab,jai,jaa,jav,nd,h0]
  | @optTypes1 x i j n h0 h1 i1 =>
    have f0:=jbd h0;have g0:=(jbj h0).1;simp only[CQ,goP,Nat.add_assoc,Nat.reduceAdd,jab,jay,jaa] at i1;have hf:∀b,jaq T len ⟨i,b⟩=atT T i:=fun b=>jbr b (jbf (by rw[g0];decide));simp only[CQ,goP];simp[Nat.add_assoc,jbo,jah,goP,jay,jan,jbe,jby,jas,jab,jai,jaa,jav,nd,f0,g0,i1,hf]
  | @optInit0 i h0  =>
    simp only[CQ,goP];simp[Nat.add_assoc,jbo,jah,goP,jay,jan,jbe,jby,jas,jab,jai,jaa,jav,nd,h0]
  | @optInit1 i j n h0 h1 i1 =>
    have f0:=jbd h0;have g0:=(jbj h0).1;simp only[CQ,goP,Nat.add_assoc,Nat.reduceAdd,jab,jay,jaa] at i1;have hf:∀b,jaq T len ⟨i,b⟩=atT T i:=fun b=>jbr b (jbf (by rw[g0];decide));simp only[CQ,goP];simp[Nat.add_assoc,jbo,jah,goP,jay,jan,jbe,jby,jas,jab,jai,jaa,jav,nd,f0,g0,i1,hf]
  | @block i j l h0 h1 h2 i1 =>
    have f0:=jbd h0;have g0:=(jbj h0).1;simp only[CQ,goP,Nat.add_assoc,Nat.reduceAdd,jab,jay,jaa] at i1;have f2:=jbd h2;have g2:=(jbj h2).1;have hf:∀b,jaq T len ⟨i,b⟩=atT T i:=fun b=>jbr b (jbf (by rw[g0];decide));refine jdi ?_;simp[Nat.add_assoc,jbo,jah,goP,jay,jan,jbe,jby,jas,jab,jai,jaa,jav,nd,jjh,f0,g0,i1,f2,g2,hf]
  | @stmts0 i h0  =>
    have f0:=jbd h0;have g0:=(jbj h0).1;have hf:∀b,jaq T len ⟨i,b⟩=atT T i:=fun b=>jbr b (jbf (by rw[g0];decide));refine jdi ?_;simp[Nat.add_assoc,jbo,jah,goP,jay,jan,jbe,jby,jas,jab,jai,jaa,jav,nd,jio,f0,g0,hf]
  | @stmts1 i k j n l h0 h1 h2 i1 i2 =>
    simp only[CQ,goP,Nat.add_assoc,Nat.reduceAdd,jab,jay,jaa] at i1;simp only[CQ,goP,Nat.add_assoc,Nat.reduceAdd,jab,jay,jaa] at i2;refine jdi ?_;simp[Nat.add_assoc,jbo,jah,goP,jay,jan,jbe,jby,jas,jab,jai,jaa,jav,nd,jio,h0,i1,i2]
  | @stmtM i h0 h1  =>
    have f1:=jbd h1;have g1:=(jbj h1).1;have hf:∀b,jaq T len ⟨i,b⟩=atT T i:=fun b=>jbr b (jbf (by rcases h0 with h | h<;>rw[h]<;>decide));(have hs:jiw T ⟨i,none⟩=true:=by rw[semi_ok];exact h1);refine jdi ?_;rcases h0 with h0 | h0<;>simp[Nat.add_assoc,jbo,jah,goP,jay,jan,jbe,jby,jas,jab,jai,jaa,jav,nd,jhq,jco,f1,g1,h0,hf,hs]
  | @stmtV i j n h0 h1 i1 =>
    have f0:=jbd h0;have g0:=(jbj h0).1;simp only[CQ,goP,Nat.add_assoc,Nat.reduceAdd,jab,jay,jaa] at i1;have hf:∀b,jaq T len ⟨i,b⟩=atT T i:=fun b=>jbr b (jbf (by rw[g0];decide));refine jdi ?_;simp[Nat.add_assoc,jbo,jah,goP,jay,jan,jbe,jby,jas,jab,jai,jaa,jav,nd,jhq,f0,g0,i1,hf]
  | @stmtB i j n h0 h1 i1 =>
    have f0:=jbd h0;have g0:=(jbj h0).1;simp only[CQ,goP,Nat.add_assoc,Nat.reduceAdd,jab,jay,jaa] at i1;have hf:∀b,jaq T len ⟨i,b⟩=atT T i:=fun b=>jbr b (jbf (by rw[g0];decide));refine jdi ?_;simp[Nat.add_assoc,jbo,jah,goP,jay,jan,jbe,jby,jas,jab,jai,jaa,jav,nd,jhq,f0,g0,i1,hf]
  | @stmtR i j l h0 h1 h2 i1 =>
    have f0:=jbd h0;have g0:=(jbj h0).1;simp only[CQ,goP,Nat.add_assoc,Nat.reduceAdd,jab,jay,jaa] at i1;have f2:=jbd h2;have g2:=(jbj h2).1;have hf:∀b,jaq T len ⟨i,b⟩=atT T i:=fun b=>jbr b (jbf (by rw[g0];decide));refine jdi ?_
    cases h1 with
    | optExpr0 hp =>
      simp[Nat.add_assoc,jbo,jah,goP,jay,jan,jbe,jby,jas,jab,jai,jaa,jav,nd,jhq,f0,g0,f2,g2,hf,hp]
    | optExpr1 hp hr =>
      rw[if_neg (by rw[hp];decide)] at i1;obtain ⟨m',s',e1,e2⟩:=ja2.1 i1;obtain ⟨e3,rfl⟩:=jaz e2;have e1:=Option.some.inj e1;simp only[jdo,Nd.mk.injEq,List.cons.injEq,and_true,true_and] at e3;subst e3;simp[Nat.add_assoc,jbo,jah,goP,jay,jan,jbe,jby,jas,jab,jai,jaa,jav,nd,jhq,f0,g0,f2,g2,hf,hp,e1]
  | @stmtI i k m j c a b h0 h1 h2 h3 i1 i2 i3 =>
    have f0:=jbd h0;have g0:=(jbj h0).1;simp only[CQ,goP,Nat.add_assoc,Nat.reduceAdd,jab,jay,jaa] at i1;simp only[CQ,goP,Nat.add_assoc,Nat.reduceAdd,jab,jay,jaa] at i2;simp only[CQ,goP,Nat.add_assoc,Nat.reduceAdd,jab,jay,jaa] at i3;have hf:∀b,jaq T len ⟨i,b⟩=atT T i:=fun b=>jbr b (jbf (by rw[g0];decide));refine jdi ?_
    cases h3 with
    | optElse0 hp =>
      simp[Nat.add_assoc,jbo,jah,goP,jay,jan,jbe,jby,jas,jab,jai,jaa,jav,nd,jhq,f0,g0,i1,i2,hf,hp]
    | optElse1 hp hr =>
      rw[if_pos hp] at i3;obtain ⟨m',s',e1,e2⟩:=ja2.1 i3;obtain ⟨e3,rfl⟩:=jaz e2;have e1:=Option.some.inj e1;simp only[jdo,Nd.mk.injEq,List.cons.injEq,and_true,true_and] at e3;subst e3;simp[Nat.add_assoc,jbo,jah,goP,jay,jan,jbe,jby,jas,jab,jai,jaa,jav,nd,jhq,f0,g0,i1,i2,hf,hp,e1]
  | @stmtW i k j c a h0 h1 h2 i1 i2 =>
    have f0:=jbd h0;have g0:=(jbj h0).1;simp only[CQ,goP,Nat.add_assoc,Nat.reduceAdd,jab,jay,jaa] at i1;simp only[CQ,goP,Nat.add_assoc,Nat.reduceAdd,jab,jay,jaa] at i2;have hf:∀b,jaq T len ⟨i,b⟩=atT T i:=fun b=>jbr b (jbf (by rw[g0];decide));refine jdi ?_;simp[Nat.add_assoc,jbo,jah,goP,jay,jan,jbe,jby,jas,jab,jai,jaa,jav,nd,jhq,f0,g0,i1,i2,hf]
  | @stmtA i k j a b h0 h1 h2 h3 h4 h5 h6 h7 h8 h9 i6 i8 =>
    simp only[CQ,goP,Nat.add_assoc,Nat.reduceAdd,jab,jay,jaa] at i6;have f7:=jbd h7;have g7:=(jbj h7).1;simp only[CQ,goP,Nat.add_assoc,Nat.reduceAdd,jab,jay,jaa] at i8;have f9:=jbd h9;have g9:=(jbj h9).1;have hf:∀b,jaq T len ⟨i,b⟩=atT T i:=fun b=>jbr b (runZ h6 (by have:=jb1 h6;simp only[jdp] at this;omega));(have h0':¬(jbi T ⟨i,none⟩=7∨(jbi T ⟨i,none⟩=6∧jiw T ⟨i,none⟩=true)):=by rw[semi_ok];exact h0);refine jdi ?_;unfold jbo jhq;dsimp only;rw[if_neg h0'];simp[Nat.add_assoc,jbo,jah,goP,jay,jan,jbe,jby,jas,jab,jai,jaa,jav,nd,jhq,h1,h2,h3,h4,h5,i6,f7,g7,i8,f9,g9,hf]
  | @stmtD i j a h0 h1 h2 h3 h4 h5 h6 h7 h8 i6 =>
    simp only[CQ,goP,Nat.add_assoc,Nat.reduceAdd,jab,jay,jaa] at i6;have f8:=jbd h8;have g8:=(jbj h8).1;have hf:∀b,jaq T len ⟨i,b⟩=atT T i:=fun b=>jbr b (runZ h6 (by have:=jb1 h6;simp only[jdp] at this;omega));(have h0':¬(jbi T ⟨i,none⟩=7∨(jbi T ⟨i,none⟩=6∧jiw T ⟨i,none⟩=true)):=by rw[semi_ok];exact h0);refine jdi ?_;unfold jbo jhq;dsimp only;rw[if_neg h0'];simp[Nat.add_assoc,jbo,jah,goP,jay,jan,jbe,jby,jas,jab,jai,jaa,jav,nd,jhq,h1,h2,h3,h4,h5,i6,h7,f8,g8,hf]
  | @optExpr0 i h0  =>
    have f0:=jbd h0;have g0:=(jbj h0).1;have hf:∀b,jaq T len ⟨i,b⟩=atT T i:=fun b=>jbr b (jbf (by rw[g0];decide));simp only[CQ,goP];simp[Nat.add_assoc,jbo,jah,goP,jay,jan,jbe,jby,jas,jab,jai,jaa,jav,nd,f0,g0,hf]
  | @optExpr1 i j n h0 h1 i1 =>
    simp only[CQ,goP,Nat.add_assoc,Nat.reduceAdd,jab,jay,jaa] at i1;simp only[CQ,goP];simp[Nat.add_assoc,jbo,jah,goP,jay,jan,jbe,jby,jas,jab,jai,jaa,jav,nd,h0,i1]
  | @optElse0 i h0  =>
    simp only[CQ,goP];simp[Nat.add_assoc,jbo,jah,goP,jay,jan,jbe,jby,jas,jab,jai,jaa,jav,nd,h0]
  | @optElse1 i j n h0 h1 i1 =>
    have f0:=jbd h0;have g0:=(jbj h0).1;simp only[CQ,goP,Nat.add_assoc,Nat.reduceAdd,jab,jay,jaa] at i1;have hf:∀b,jaq T len ⟨i,b⟩=atT T i:=fun b=>jbr b (jbf (by rw[g0];decide));simp only[CQ,goP];simp[Nat.add_assoc,jbo,jah,goP,jay,jan,jbe,jby,jas,jab,jai,jaa,jav,nd,f0,g0,i1,hf]
  | @cond i j n h0 h1 h2 i1 =>
    have f0:=jbd h0;have g0:=(jbj h0).1;simp only[CQ,goP,Nat.add_assoc,Nat.reduceAdd,jab,jay,jaa] at i1;have f2:=jbd h2;have g2:=(jbj h2).1;have hf:∀b,jaq T len ⟨i,b⟩=atT T i:=fun b=>jbr b (jbf (by rw[g0];decide));refine jdi ?_;simp[Nat.add_assoc,jbo,jah,goP,jay,jan,jbe,jby,jas,jab,jai,jaa,jav,nd,jn5,f0,g0,i1,f2,g2,hf]
  | @expr lvl i k j n m h0 h1 h2 i1 i2 =>
    simp only[CQ,goP,Nat.add_assoc,Nat.reduceAdd,jab,jay,jaa] at i1;simp only[CQ,goP,Nat.add_assoc,Nat.reduceAdd,jab,jay,jaa] at i2;(have h0':¬6≤lvl:=by omega);refine jdi ?_;simp[Nat.add_assoc,jbo,jah,goP,jay,jan,jbe,jby,jas,jab,jai,jaa,jav,nd,jl7,h0,i1,i2,h0']
  | @exprU lvl i j n h0 h1 i1 =>
    simp only[CQ,goP,Nat.add_assoc,Nat.reduceAdd,jab,jay,jaa] at i1;refine jdi ?_;simp[Nat.add_assoc,jbo,jah,goP,jay,jan,jbe,jby,jas,jab,jai,jaa,jav,nd,jl7,h0,i1]
  | @bin0 lvl i n h0  =>
    refine jdi ?_;simp[Nat.add_assoc,jbo,jah,goP,jay,jan,jbe,jby,jas,jab,jai,jaa,jav,nd,bBin,h0]
  | @bin1 lvl i k j n b m h0 h1 h2 i1 i2 =>
    simp only[CQ,goP,Nat.add_assoc,Nat.reduceAdd,jab,jay,jaa] at i1;simp only[CQ,goP,Nat.add_assoc,Nat.reduceAdd,jab,jay,jaa] at i2;refine jdi ?_;simp[Nat.add_assoc,jbo,jah,goP,jay,jan,jbe,jby,jas,jab,jai,jaa,jav,nd,bBin,h0,i1,i2]
  | @unary1 i j a h0 h1 i1 =>
    simp only[CQ,goP,Nat.add_assoc,Nat.reduceAdd,jab,jay,jaa] at i1;(have g0:kAt T i=5:=by rcases h0 with h | h<;>exact (jbj h).1);have hf:∀b,jaq T len ⟨i,b⟩=atT T i:=fun b=>jbr b (jbf (by rw[g0];decide));refine jdi ?_;simp[Nat.add_assoc,jbo,jah,goP,jay,jan,jbe,jby,jas,jab,jai,jaa,jav,nd,jhp,i1,h0,g0,hf]
  | @unary2 i k j n m h0 h1 h2 h3 i2 i3 =>
    simp only[CQ,goP,Nat.add_assoc,Nat.reduceAdd,jab,jay,jaa] at i2;simp only[CQ,goP,Nat.add_assoc,Nat.reduceAdd,jab,jay,jaa] at i3;refine jdi ?_;simp[Nat.add_assoc,jbo,jah,goP,jay,jan,jbe,jby,jas,jab,jai,jaa,jav,nd,jhp,h0,h1,i2,i3]
  | @post0 i n h0 h1  =>
    refine jdi ?_;simp[Nat.add_assoc,jbo,jah,goP,jay,jan,jbe,jby,jas,jab,jai,jaa,jav,nd,jkb,h0,h1]
  | @post1 i j n m h0 h1 h2 i2 =>
    have f0:=jbd h0;have g0:=(jbj h0).1;have f1:=jd7 h1;simp only[CQ,goP,Nat.add_assoc,Nat.reduceAdd,jab,jay,jaa] at i2;have hf:∀b,jaq T len ⟨i,b⟩=atT T i:=fun b=>jbr b (jbf (by rw[g0];decide));refine jdi ?_;simp[Nat.add_assoc,jbo,jah,goP,jay,jan,jbe,jby,jas,jab,jai,jaa,jav,nd,jkb,f0,g0,f1,h1,i2,hf]
  | @post2 i k j n a m h0 h1 h2 i1 i2 =>
    have f0:=jbd h0;have g0:=(jbj h0).1;simp only[CQ,goP,Nat.add_assoc,Nat.reduceAdd,jab,jay,jaa] at i1;simp only[CQ,goP,Nat.add_assoc,Nat.reduceAdd,jab,jay,jaa] at i2;have hf:∀b,jaq T len ⟨i,b⟩=atT T i:=fun b=>jbr b (jbf (by rw[g0];decide));refine jdi ?_;simp[Nat.add_assoc,jbo,jah,goP,jay,jan,jbe,jby,jas,jab,jai,jaa,jav,nd,jkb,f0,g0,i1,i2,hf]
  | @args i j l h0 h1 i0 =>
    simp only[CQ,goP,Nat.add_assoc,Nat.reduceAdd,jab,jay,jaa] at i0;have f1:=jbd h1;have g1:=(jbj h1).1;refine jdi ?_;simp[Nat.add_assoc,jbo,jah,goP,jay,jan,jbe,jby,jas,jab,jai,jaa,jav,nd,jn6,i0,f1,g1]
  | @argsL0 f i h0  =>
    have f0:=jbd h0;have g0:=(jbj h0).1;have hf:∀b,jaq T len ⟨i,b⟩=atT T i:=fun b=>jbr b (jbf (by rw[g0];decide));refine jdi ?_;simp[Nat.add_assoc,jbo,jah,goP,jay,jan,jbe,jby,jas,jab,jai,jaa,jav,nd,jh9,f0,g0,hf]
  | @argsL1 i k j n l h0 h1 h2 i1 i2 =>
    simp only[CQ,goP,Nat.add_assoc,Nat.reduceAdd,jab,jay,jaa] at i1;simp only[CQ,goP,Nat.add_assoc,Nat.reduceAdd,jab,jay,jaa] at i2;refine jdi ?_;simp[Nat.add_assoc,jbo,jah,goP,jay,jan,jbe,jby,jas,jab,jai,jaa,jav,nd,jh9,h0,i1,i2]
  | @argsL2 i k j n l h0 h1 h2 i1 i2 =>
    have f0:=jbd h0;have g0:=(jbj h0).1;simp only[CQ,goP,Nat.add_assoc,Nat.reduceAdd,jab,jay,jaa] at i1;simp only[CQ,goP,Nat.add_assoc,Nat.reduceAdd,jab,jay,jaa] at i2;have hf:∀b,jaq T len ⟨i,b⟩=atT T i:=fun b=>jbr b (jbf (by rw[g0];decide));refine jdi ?_;simp[Nat.add_assoc,jbo,jah,goP,jay,jan,jbe,jby,jas,jab,jai,jaa,jav,nd,jh9,f0,g0,i1,i2,hf]
  | @arg0 i h0  =>
    have f0:=jd7 h0;have hf:∀b,jaq T len ⟨i,b⟩=atT T i:=fun b=>jbr b (jbf (by rw[h0];decide));simp only[CQ,goP];simp[Nat.add_assoc,jbo,jah,goP,jay,jan,jbe,jby,jas,jab,jai,jaa,jav,nd,jco,f0,h0,hf]
  | @arg1 i j n h0 h1 i1 =>
    simp only[CQ,goP,Nat.add_assoc,Nat.reduceAdd,jab,jay,jaa] at i1;simp only[CQ,goP];simp[Nat.add_assoc,jbo,jah,goP,jay,jan,jbe,jby,jas,jab,jai,jaa,jav,nd,h0,i1]
  | @leaf i q h0  =>
    have hf:∀b,jaq T len ⟨i,b⟩=atT T i:=fun b=>jbr b (jbf (by rcases h0 with h | h | h<;>rw[h.1]<;>decide));refine jdi ?_;rcases h0 with ⟨h0,rfl⟩ | ⟨h0,rfl⟩ | ⟨h0,rfl⟩<;>simp[Nat.add_assoc,jbo,jah,goP,jay,jan,jbe,jby,jas,jab,jai,jaa,jav,nd,jdv,h0,hf]
  | @primM i h0  =>
    have f0:=jd7 h0;have hf:∀b,jaq T len ⟨i,b⟩=atT T i:=fun b=>jbr b (jbf (by rw[h0];decide));refine jdi ?_;simp[Nat.add_assoc,jbo,jah,goP,jay,jan,jbe,jby,jas,jab,jai,jaa,jav,nd,jco,jdv,f0,h0,hf]
  | @new1 i j l h0 h1 h2 h3 h4 i4 =>
    have f0:=jbd h0;have g0:=(jbj h0).1;have f1:=jd7 h1;have f3:=jbd h3;have g3:=(jbj h3).1;simp only[CQ,goP,Nat.add_assoc,Nat.reduceAdd,jab,jay,jaa] at i4;have hf:∀b,jaq T len ⟨i,b⟩=atT T i:=fun b=>jbr b (jbf (by rw[g0];decide));refine jdi ?_;simp[Nat.add_assoc,jbo,jah,goP,jay,jan,jbe,jby,jas,jab,jai,jaa,jav,nd,jes,jdv,f0,g0,f1,h1,h2,f3,g3,i4,hf]
  | @new2 i j l h0 h1 h2 h3 h4 h5 i5 =>
    have f0:=jbd h0;have g0:=(jbj h0).1;have f1:=jd7 h1;have f2:=jbd h2;have g2:=(jbj h2).1;have f3:=jd7 h3;have f4:=jbd h4;have g4:=(jbj h4).1;simp only[CQ,goP,Nat.add_assoc,Nat.reduceAdd,jab,jay,jaa] at i5;have hf:∀b,jaq T len ⟨i,b⟩=atT T i:=fun b=>jbr b (jbf (by rw[g0];decide));refine jdi ?_;simp[Nat.add_assoc,jbo,jah,goP,jay,jan,jbe,jby,jas,jab,jai,jaa,jav,nd,jes,jdv,f0,g0,f1,h1,f2,g2,f3,h3,f4,g4,i5,hf]
  | @const i h0 h1 h2  =>
    have f1:=jd7 h1;have hf:∀b,jaq T len ⟨i,b⟩=atT T i:=fun b=>jbr b (jbf (by rw[h1];decide));refine jdi ?_;simp[Nat.add_assoc,jbo,jah,goP,jay,jan,jbe,jby,jas,jab,jai,jaa,jav,nd,jdv,h0,f1,h1,h2,hf]
  | @paren i j n h0 h1 h2 i1 =>
    have f0:=jbd h0;have g0:=(jbj h0).1;simp only[CQ,goP,Nat.add_assoc,Nat.reduceAdd,jab,jay,jaa] at i1;have f2:=jbd h2;have g2:=(jbj h2).1;have hf:∀b,jaq T len ⟨i,b⟩=atT T i:=fun b=>jbr b (jbf (by rw[g0];decide));refine jdi ?_;simp[Nat.add_assoc,jbo,jah,goP,jay,jan,jbe,jby,jas,jab,jai,jaa,jav,nd,jdv,f0,g0,i1,f2,g2,hf]
end
end Go.Proofs.YtonoklmobocikaaGreatDoor
