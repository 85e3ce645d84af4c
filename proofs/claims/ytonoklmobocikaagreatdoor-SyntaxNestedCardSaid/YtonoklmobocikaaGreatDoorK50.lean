/- Lemmas. -/
import Derived.Test.YtonoklmobocikaaGreatDoorK37
set_option linter.unusedVariables false
set_option linter.unusedSimpArgs false
set_option maxRecDepth 20000
set_option maxHeartbeats 6400000
namespace Go.Proofs.YtonoklmobocikaaGreatDoor
section
mutual
def nest:Nd→Prop
  | .mk _ _ a e l=>jgm a e l
def jgm:Int→Int→List Nd→Prop
  | a,e,[]=>a≤e
  | a,e,n :: l=>a≤n.at_∧nest n∧jgm n.en e l
end
theorem jgl {k:Int} {x:List UInt8} {a e:Int} {l:List Nd}:nest (.mk k x a e l)↔jgm a e l:=by rw[nest]
theorem jdz {a e:Int}:jgm a e []↔a≤e:=by rw[jgm]
theorem jcg {a e:Int} {n:Nd} {l:List Nd}:jgm a e (n :: l)↔a≤n.at_∧nest n∧jgm n.en e l:=by rw[jgm]
theorem je4 {a e a' e':Int} (ha:a'≤a) (he:e≤e'):∀l:List Nd,jgm a e l→jgm a' e' l:=by
  intro l
  induction l generalizing a a' with
  | nil=>intro h;rw[jdz] at h ⊢;omega
  | cons n l ih =>
    intro h;rw[jcg] at h ⊢;exact ⟨by omega,h.2.1,ih (Int.le_refl _) h.2.2⟩
theorem nestL_app {m e:Int} {l':List Nd} (h':jgm m e l'):∀(l:List Nd) (a:Int),jgm a m l→jgm a e (l++l'):=by
  intro l
  induction l with
  | nil=>intro a h;rw[jdz] at h;exact je4 h (Int.le_refl _) _ h'
  | cons n l ih=>intro a h;rw[jcg] at h;rw[List.cons_append,jcg];exact ⟨h.1,h.2.1,ih _ h.2.2⟩
theorem nestL_last:∀(l:List Nd) (n:Nd) (a e:Int),jgm a e (n :: l)→∃m,(n :: l).getLast?=some m∧m.en≤e∧jgm n.at_ m.en (n :: l):=by
  intro l
  induction l with
  | nil =>
    intro n a e h;rw[jcg,jdz] at h;exact ⟨n,rfl,h.2.2,by rw[jcg,jdz];exact ⟨Int.le_refl _,h.2.1,Int.le_refl _⟩⟩
  | cons x l ih =>
    intro n a e h;rw[jcg] at h;obtain ⟨m,h1,h2,h3⟩:=ih x n.en e h.2.2;refine ⟨m,by rw[List.getLast?_cons_cons];exact h1,h2,?_⟩;rw[jcg];exact ⟨Int.le_refl _,h.2.1,je4 (jcg.1 h.2.2).1 (Int.le_refl _) _ h3⟩
theorem nest_list {a e p:Int} {l:List Nd} (h:jgm a e l) (h1:a≤p) (h2:p≤e):nest (jbm l p)∧a≤(jbm l p).at_∧(jbm l p).en≤e:=by
  cases l with
  | nil=>exact ⟨jgl.2 (jdz.2 (Int.le_refl _)),h1,h2⟩
  | cons n l =>
    obtain ⟨m,h3,h4,h5⟩:=nestL_last l n a e h;unfold jbm;rw[h3];exact ⟨jgl.2 h5,(jcg.1 h).1,h4⟩
def OrdT (T:List Tk):Prop:=∀i,i<T.length→jc2 T i≤atT T i∧atT T i<enT T i
section
variable {T:List Tk} (hT:OrdT T)
theorem last_succ (i:Nat):jc2 T (i+1)=enT T i:=by unfold jc2;rw[if_neg (by omega)];try rfl
theorem jb9 {i:Nat} {k:Int} {x:List UInt8} (hk:k≠0) (h:jce T i k x=true):i<T.length:=jbf (jh7 hk h)
include hT
theorem jie {i:Nat} (h:i<T.length):jc2 T i≤atT T i∧atT T i<jc2 T (i+1):=by
  have:=hT i h;rw[last_succ];exact this
theorem jeg {i j:Nat} (h:i≤j) (hj:j≤T.length):jc2 T i≤jc2 T j:=by
  induction j with
  | zero =>
            (have:i=0:=by omega);subst this;exact Int.le_refl _
  | succ j ih =>
    by_cases hi:i≤j
    · have:=ih hi (by omega);have:=jie hT (i:=j) (by omega);omega
    · (have:i=j+1:=by omega);subst this;exact Int.le_refl _
end
def QL (T:List Tk) (i:Nat) (n:Nd) (j:Nat):Prop:=i≤T.length→i≤j∧j≤T.length∧jgm (jc2 T i) (jc2 T j) n.kids
def QA (T:List Tk) (m:Nd) (i:Nat) (n:Nd) (j:Nat):Prop:=i≤T.length→i≤j∧j≤T.length∧(nest m→m.en≤jc2 T i→nest n∧m.at_=n.at_∧n.en≤jc2 T j)
def QO (T:List Tk) (i:Nat) (n:Nd) (j:Nat):Prop:=i<j∧j≤T.length∧nest n∧atT T i≤n.at_∧n.en≤jc2 T j
def QN (T:List Tk):RN→Nat→Nd→Nat→Prop
  | .n (.binRest _ m)=>QA T m
  | .n (.postRest m)=>QA T m
  | .n .imports | .n .decls | .n (.members _) | .n (.params _) | .n .types | .n .stmts | .n .args | .n (.argsL _) | .optTyp _ _ | .optTypes _ | .optInit | .optElse | .optExpr | .blk _=>QL T
  | _=>QO T
section
variable {T:List Tk} (hT:OrdT T)
include hT
omit hT in
theorem jjb {i:Nat}:QL T i je8 i:=fun h=>⟨Nat.le_refl _,h,jdz.2 (Int.le_refl _)⟩
theorem ql_one {i j:Nat} {n:Nd} (h:QO T i n j):QL T i (jdo [n]) j:=fun hi=>by
  obtain ⟨h1,h2,h3,h4,h5⟩:=h
  have:=jie hT (i:=i) (by omega)
  exact ⟨by omega,h2,jcg.2 ⟨by omega,h3,jdz.2 h5⟩⟩
theorem jhj {i k j:Nat} {n l:Nd} (h:QO T i n k) (h':QL T k l j):QL T i (jen n l) j:=fun hi=>by
  obtain ⟨h1,h2,h3,h4,h5⟩:=h
  obtain ⟨h6,h7,h8⟩:=h' h2
  have:=jie hT (i:=i) (by omega)
  exact ⟨by omega,h7,jcg.2 ⟨by omega,h3,je4 h5 (Int.le_refl _) _ h8⟩⟩
theorem jj0 {i k j:Nat} {l:Nd} (h:i≤k) (hk:k≤T.length) (h':QL T k l j):QL T i l j:=fun hi=>by
  obtain ⟨h6,h7,h8⟩:=h' hk
  exact ⟨by omega,h7,je4 (jeg hT h hk) (Int.le_refl _) _ h8⟩
theorem ql_back {i j q:Nat} {l:Nd} (h':QL T i l j) (h:j≤q) (hq:q≤T.length):QL T i l q:=fun hi=>by
  obtain ⟨h6,h7,h8⟩:=h' hi
  exact ⟨by omega,hq,je4 (Int.le_refl _) (jeg hT h hq) _ h8⟩
theorem jh3 {i j:Nat} {k:Int} {x:List UInt8} (h:i<j) (hj:j≤T.length):QO T i (nd T k x i [] j) j:=by
  have:=jie hT (i:=i) (by omega);have:=jeg hT (i:=i+1) (j:=j) (by omega) hj;exact ⟨h,hj,jgl.2 (jdz.2 (by omega)),Int.le_refl _,Int.le_refl _⟩
theorem jh4 {i a b j:Nat} {k:Int} {x:List UInt8} {l:List Nd} (h:i<a) (ha:a≤b) (hb:b≤j) (hj:j≤T.length) (hl:jgm (jc2 T a) (jc2 T b) l):QO T i (nd T k x i l j) j:=by
  have:=jie hT (i:=i) (by omega);have:=jeg hT (i:=i+1) (j:=a) (by omega) (by omega);have:=jeg hT hb hj;exact ⟨by omega,hj,jgl.2 (je4 (by omega) (by omega) _ hl),Int.le_refl _,Int.le_refl _⟩
theorem jmx {i j:Nat} {n:Nd} (h:QO T i n j):jgm (jc2 T i) (jc2 T j) [n]:=by
  obtain ⟨h1,h2,h3,h4,h5⟩:=h;have:=jie hT (i:=i) (by omega);exact jcg.2 ⟨by omega,h3,jdz.2 h5⟩
theorem ji6 {i j p:Nat} {l:List Nd} (hp:p=i) (hij:i≤j) (hj:j≤T.length) (h:jgm (jc2 T i) (jc2 T j) l):jgm (jc2 T i) (jc2 T j) [jbm l (jc2 T p)]:=by
  subst hp;obtain ⟨h1,h2,h3⟩:=nest_list h (Int.le_refl _) (jeg hT hij hj);exact jcg.2 ⟨h2,h1,jdz.2 h3⟩
theorem ji7 {a b c d:Nat} {l r:List Nd} (h:jgm (jc2 T a) (jc2 T b) l) (hbc:b≤c) (hc:c≤T.length) (h':jgm (jc2 T c) (jc2 T d) r):jgm (jc2 T a) (jc2 T d) (l++r) :=
  nestL_app (je4 (jeg hT hbc hc) (Int.le_refl _) _ h') l _ h
theorem qo_first {i k b j:Nat} {q:Int} {x:List UInt8} {n:Nd} {l:List Nd} (h:QO T i n k) (hkb:k≤b) (hbj:b≤j) (hj:j≤T.length) (hl:jgm (jc2 T k) (jc2 T b) l):QO T i (nd T q x i (n :: l) j) j:=by
  obtain ⟨h1,h2,h3,h4,h5⟩:=h;have:=jeg hT hbj hj;exact ⟨by omega,hj,jgl.2 (jcg.2 ⟨h4,h3,je4 h5 (by omega) _ hl⟩),Int.le_refl _,Int.le_refl _⟩
omit hT in
theorem qo_more {i k j:Nat} {n m:Nd} (h:QO T i n k) (h':QA T n k m j):QO T i m j:=by
  obtain ⟨h1,h2,h3,h4,h5⟩:=h;obtain ⟨h6,h7,h8⟩:=h' h2;obtain ⟨h9,h10,h11⟩:=h8 h3 h5;exact ⟨by omega,h7,h9,by omega,h11⟩
theorem jix {r:RN} {i:Nat} {n:Nd} {j:Nat} (h:Run T r i n j):QN T r i n j:=by
  induction h with
  | imp0 h=>exact jjb
  | imp1 h1 h2 h3 hr ih =>
    have:=jb9 (by decide) h3;exact jhj hT (jh3 hT (by omega) (by omega)) ih
  | decls0 h=>exact jjb
  | decls1 h1 hr1 hr2 ih1 ih2=>exact jhj hT ih1 ih2
  | declC h1 hr ih=>exact ih
  | declI h1 h2 hr ih=>exact ih
  | declF h1 h2 h3 hr ih=>exact ih
  | declV h1 h2 h3 hr ih=>exact ih
  | @classD i k m q e b l h1 h2 hr1 hr2 h3 hr3 h4 ih1 ih2 ih3 =>
    have g2:i+1<T.length:=jbf (by rw[h2];decide);have g3:=jb9 (by decide) h3;have g4:=jb9 (by decide) h4;obtain ⟨a1,a2,a3⟩:=(show QL T (i+2) e k from ih1) (by omega);obtain ⟨b1,b2,b3⟩:=(show QL T k b m from ih2) a2;obtain ⟨c1,c2,c3⟩:=(show QL T (m+1) l q from ih3) (by omega)
    exact jh4 hT (a:=i+2) (b:=q) (by omega) (by omega) (by omega) (by omega)
      (ji7 hT (l:=[_]) (ji6 hT rfl a1 a2 a3) (Nat.le_refl k) a2 (ji7 hT (l:=[_]) (ji6 hT rfl b1 b2 b3) (Nat.le_succ m) (by omega) (ji6 hT rfl c1 c2 c3)))
  | @ifaceD i m q b l h1 h2 hr2 h3 hr3 h4 ih2 ih3 =>
    have g2:i+1<T.length:=jbf (by rw[h2];decide);have g3:=jb9 (by decide) h3;have g4:=jb9 (by decide) h4;obtain ⟨b1,b2,b3⟩:=(show QL T (i+2) b m from ih2) (by omega);obtain ⟨c1,c2,c3⟩:=(show QL T (m+1) l q from ih3) (by omega)
    exact jh4 hT (a:=i+2) (b:=q) (by omega) (by omega) (by omega) (by omega)
      (ji7 hT (l:=[_]) (ji6 hT rfl b1 b2 b3) (Nat.le_succ m) (by omega) (ji6 hT rfl c1 c2 c3))
  | mem0 h=>exact jjb
  | mem1 h1 h2 hr ih =>
    have:=jb9 (by decide) h2;exact jhj hT (jh3 hT (by omega) (by omega)) ih
  | mem2 h1 hr1 hr2 ih1 ih2=>exact jhj hT ih1 ih2
  | mem3 h1 h2 hr1 hr2 ih1 ih2=>exact jhj hT ih1 ih2
  | @funcD bb i k m j a e c h1 h2 h3 hr1 h4 hr2 hr3 ih1 ih2 ih3 =>
    have g3:=jb9 (by decide) h3;have g4:=jb9 (by decide) h4;obtain ⟨a1,a2,a3⟩:=(show QL T (i+3) a k from ih1) (by omega);obtain ⟨b1,b2,b3⟩:=(show QL T (k+1) e m from ih2) (by omega);obtain ⟨c1,c2,c3⟩:=(show QL T m c j from ih3) b2
    exact jh4 hT (a:=i+3) (b:=j) (by omega) (by omega) (by omega) (by omega)
      (ji7 hT (l:=[_]) (ji6 hT rfl a1 a2 a3) (Nat.le_succ k) (by omega) (ji7 hT (l:=[_]) (ji6 hT rfl b1 b2 b3) (Nat.le_refl m) b2 (ji6 hT rfl c1 c2 c3)))
  | blk1 hr ih=>exact ql_one hT ih
  | blk0 h =>
    have:=jb9 (by decide) h;exact ql_back hT jjb (Nat.le_succ _) (by omega)
  | params0 h=>exact jjb
  | params1 h1 hr1 hr2 ih1 ih2=>exact jhj hT ih1 ih2
  | params2 h1 hr1 hr2 ih1 ih2 =>
    have:=jb9 (by decide) h1;exact jj0 hT (Nat.le_succ _) (by omega) (jhj hT ih1 ih2)
  | param0 h =>
    have:=jbf (T:=T) (by rw[h];decide);exact jh3 hT (Nat.lt_succ_self _) (by omega)
  | @param1 i j t h1 h2 hr ih =>
    have:=jb9 (by decide) h2;have ih:QO T (i+2) t j:=ih;exact jh4 hT (a:=i+2) (b:=j) (by omega) (Nat.le_of_lt ih.1) (Nat.le_refl _) ih.2.1 (jmx hT ih)
  | @varD i k m t l h1 h2 h3 hr1 hr2 h4 ih1 ih2 =>
    have g4:=jb9 (by decide) h4;have ih1:QO T (i+3) t k:=ih1;obtain ⟨b1,b2,b3⟩:=(show QL T k l m from ih2) ih1.2.1;have:=ih1.1;exact jh4 hT (a:=i+3) (b:=m) (by omega) (by omega) (by omega) (by omega) (ji7 hT (l:=[_]) (jmx hT ih1) (Nat.le_refl k) ih1.2.1 (ji6 hT rfl b1 b2 b3))
  | typM h =>
    have:=jbf (T:=T) (by rw[h];decide);exact jh3 hT (Nat.lt_succ_self _) (by omega)
  | typ1 h h' =>
    have:=jbf (T:=T) (by rw[h];decide);exact jh3 hT (Nat.lt_succ_self _) (by omega)
  | typ2 h h1 h2 =>
    have:=jbf (T:=T) (by rw[h2];decide);exact jh3 hT (by omega) (by omega)
  | elem0 h =>
    have:=jbf (T:=T) (by rw[h];decide);exact jh3 hT (Nat.lt_succ_self _) (by omega)
  | elem1 h hr ih=>exact ih
  | types0 hr h ih=>exact ql_one hT ih
  | types1 hr1 h hr2 ih1 ih2 =>
    have:=jb9 (by decide) h;exact jhj hT ih1 (jj0 hT (Nat.le_succ _) (by omega) ih2)
  | optTyp0 hk h=>exact jjb
  | @optTyp1 k x i j n hk h hr ih =>
    have ih:QO T (i+1) n j:=ih;have:=ih.1;have:=ih.2.1;exact jj0 hT (Nat.le_succ _) (by omega) (ql_one hT ih)
  | optTypes0 h=>exact jjb
  | optTypes1 h hr ih =>
    have:=jb9 (by decide) h;exact jj0 hT (Nat.le_succ _) (by omega) ih
  | optInit0 h=>exact jjb
  | optInit1 h hr ih =>
    have:=jb9 (by decide) h;exact jj0 hT (Nat.le_succ _) (by omega) (ql_one hT ih)
  | @block i j l h hr h' ih =>
    have g:=jb9 (by decide) h;have g':=jb9 (by decide) h';obtain ⟨a1,a2,a3⟩:=(show QL T (i+1) l j from ih) (by omega);exact jh4 hT (a:=i+1) (b:=j) (by omega) (by omega) (by omega) (by omega) a3
  | stmts0 h=>exact jjb
  | stmts1 h hr1 hr2 ih1 ih2=>exact jhj hT ih1 ih2
  | stmtM h h' =>
    have:=jb9 (by decide) h';exact jh3 hT (by omega) (by omega)
  | stmtV h hr ih=>exact ih
  | stmtB h hr ih=>exact ih
  | @stmtR i j l h hr h' ih =>
    have g:=jb9 (by decide) h;have g':=jb9 (by decide) h';obtain ⟨a1,a2,a3⟩:=(show QL T (i+1) l j from ih) (by omega);exact jh4 hT (a:=i+1) (b:=j) (by omega) (by omega) (by omega) (by omega) a3
  | @stmtI i k m j c a b h hr1 hr2 hr3 ih1 ih2 ih3 =>
    have ih1:QO T (i+1) c k:=ih1;have ih2:QO T k a m:=ih2;obtain ⟨b1,b2,b3⟩:=(show QL T m b j from ih3) ih2.2.1;have:=ih1.1;have:=ih2.1
    exact jh4 hT (a:=i+1) (b:=j) (by omega) (by omega) (by omega) (by omega)
      (ji7 hT (l:=[_]) (jmx hT ih1) (Nat.le_refl k) ih1.2.1 (ji7 hT (l:=[_]) (jmx hT ih2) (Nat.le_refl m) ih2.2.1 (ji6 hT rfl b1 b2 b3)))
  | @stmtW i k j c a h hr1 hr2 ih1 ih2 =>
    have ih1:QO T (i+1) c k:=ih1;have ih2:QO T k a j:=ih2;have:=ih1.1;have:=ih2.1;have:=ih2.2.1;exact jh4 hT (a:=i+1) (b:=j) (by omega) (by omega) (by omega) (by omega) (ji7 hT (l:=[_]) (jmx hT ih1) (Nat.le_refl k) ih1.2.1 (jmx hT ih2))
  | @stmtA i k j a b h0 h1 h2 h3 h4 h5 hr1 h6 hr2 h7 ih1 ih2 =>
    have ih1:QO T i a k:=ih1;have ih2:QO T (k+1) b j:=ih2;have g:=jb9 (by decide) h6;have g':=jb9 (by decide) h7;have:=ih2.1;exact qo_first hT ih1 (b:=j) (by omega) (by omega) (by omega) (je4 (jeg hT (Nat.le_succ k) (by omega)) (Int.le_refl _) _ (jmx hT ih2))
  | @stmtD i j a h0 h1 h2 h3 h4 h5 hr1 h6 h7 ih1 =>
    have ih1:QO T i a j:=ih1;have g':=jb9 (by decide) h7;exact qo_first hT ih1 (b:=j) (Nat.le_refl _) (by omega) (by omega) (jdz.2 (Int.le_refl _))
  | optExpr0 h=>exact jjb
  | optExpr1 h hr ih=>exact ql_one hT ih
  | optElse0 h=>exact jjb
  | optElse1 h hr ih =>
    have:=jb9 (by decide) h;exact jj0 hT (Nat.le_succ _) (by omega) (ql_one hT ih)
  | @cond i j n h hr h' ih =>
    obtain ⟨h1,h2,h3,h4,h5⟩:=(show QO T (i+1) n j from ih);have g:=jb9 (by decide) h';have:=jie hT (i:=i) (by omega);have:=jie hT (i:=i+1) (by omega);have:=jeg hT (i:=j) (j:=j+1) (by omega) (by omega);exact ⟨by omega,by omega,h3,by omega,by omega⟩
  | expr h hr1 hr2 ih1 ih2=>exact qo_more ih1 ih2
  | exprU h hr ih=>exact ih
  | bin0 h=>exact fun hi=>⟨Nat.le_refl _,hi,fun h1 h2=>⟨h1,rfl,h2⟩⟩
  | @bin1 lvl i k j n b m h hr1 hr2 ih1 ih2 =>
    obtain ⟨h1,h2,h3,h4,h5⟩:=(show QO T (i+1) b k from ih1);obtain ⟨h6,h7,h8⟩:=(show QA T (.mk 23 (jnj T lvl i) n.at_ (jc2 T k) [n,b]) k m j from ih2) h2;refine fun hi=>⟨by omega,h7,fun hn he=>?_⟩;have:=jie hT (i:=i) (by omega);have:=jie hT (i:=i+1) (by omega);exact h8 (jgl.2 (jcg.2 ⟨Int.le_refl _,hn,jcg.2 ⟨by omega,h3,jdz.2 h5⟩⟩)) (Int.le_refl _)
  | @unary1 i j a h hr ih =>
    have ih:QO T (i+1) a j:=ih;have:=ih.1;have:=ih.2.1;exact jh4 hT (a:=i+1) (b:=j) (by omega) (by omega) (by omega) (by omega) (jmx hT ih)
  | unary2 h h' hr1 hr2 ih1 ih2=>exact qo_more ih1 ih2
  | post0 h h'=>exact fun hi=>⟨Nat.le_refl _,hi,fun h1 h2=>⟨h1,rfl,h2⟩⟩
  | @post1 i j n m h h' hr ih =>
    have g:=jbf (T:=T) (by rw[h'];decide);obtain ⟨h6,h7,h8⟩:=(show QA T (.mk 19 (xAt T (i+1)) n.at_ (jc2 T (i+2)) [n]) (i+2) m j from ih) (by omega);refine fun hi=>⟨by omega,h7,fun hn he=>?_⟩;have:=jeg hT (i:=i) (j:=i+2) (by omega) (by omega);exact h8 (jgl.2 (jcg.2 ⟨Int.le_refl _,hn,jdz.2 (by omega)⟩)) (Int.le_refl _)
  | @post2 i k j n a m h hr1 hr2 ih1 ih2 =>
    have g:=jb9 (by decide) h;obtain ⟨h1,h2,h3⟩:=(show QL T (i+1) a k from ih1) (by omega);obtain ⟨h6,h7,h8⟩:=(show QA T (.mk 20 [] n.at_ (jc2 T k) (n :: a.kids)) k m j from ih2) h2;refine fun hi=>⟨by omega,h7,fun hn he=>?_⟩;have:=jeg hT (i:=i) (j:=i+1) (by omega) (by omega);exact h8 (jgl.2 (jcg.2 ⟨Int.le_refl _,hn,je4 (by omega) (Int.le_refl _) _ h3⟩)) (Int.le_refl _)
  | args hr h ih =>
    have:=jb9 (by decide) h;exact ql_back hT ih (Nat.le_succ _) (by omega)
  | argsL0 h=>exact jjb
  | argsL1 h1 hr1 hr2 ih1 ih2=>exact jhj hT ih1 ih2
  | argsL2 h1 hr1 hr2 ih1 ih2 =>
    have:=jb9 (by decide) h1;exact jj0 hT (Nat.le_succ _) (by omega) (jhj hT ih1 ih2)
  | arg0 h =>
    have:=jbf (T:=T) (by rw[h];decide);exact jh3 hT (Nat.lt_succ_self _) (by omega)
  | arg1 h hr ih=>exact ih
  | @leaf i q h =>
    have:=jbf (T:=T) (i:=i) (by rcases h with h | h | h<;>rw[h.1]<;>decide);exact jh3 hT (Nat.lt_succ_self _) (by omega)
  | primM h =>
    have:=jbf (T:=T) (by rw[h];decide);exact jh3 hT (Nat.lt_succ_self _) (by omega)
  | @new1 i j l h1 h2 h3 h4 hr ih =>
    have g:=jb9 (by decide) h4;obtain ⟨a1,a2,a3⟩:=(show QL T (i+3) l j from ih) (by omega);exact jh4 hT (a:=i+3) (b:=j) (by omega) a1 (Nat.le_refl _) a2 a3
  | @new2 i j l h1 h2 h3 h4 h5 hr ih =>
    have g:=jb9 (by decide) h5;obtain ⟨a1,a2,a3⟩:=(show QL T (i+5) l j from ih) (by omega);exact jh4 hT (a:=i+5) (b:=j) (by omega) a1 (Nat.le_refl _) a2 a3
  | const h1 h2 h3 =>
    have:=jbf (T:=T) (by rw[h2];decide);exact jh3 hT (Nat.lt_succ_self _) (by omega)
  | @paren i j n h hr h' ih =>
    obtain ⟨h1,h2,h3,h4,h5⟩:=(show QO T (i+1) n j from ih);have g:=jb9 (by decide) h';have:=jie hT (i:=i) (by omega);have:=jie hT (i:=i+1) (by omega);have:=jeg hT (i:=j) (j:=j+1) (by omega) (by omega);obtain ⟨k,x,a,e,l⟩:=n;have h4:atT T (i+1)≤a:=h4;have h5:e≤jc2 T j:=h5;exact ⟨by omega,by omega,jgl.2 (je4 (by omega) (by omega) _ (jgl.1 h3)),Int.le_refl _,Int.le_refl _⟩
end
end
section
def OrdL:Nat→Nat→List Tk→Prop
  | lo,hi,[]=>lo≤hi
  | lo,hi,t :: l=>∃a b:Nat,t.at_=(a:Int)∧t.en=(b:Int)∧lo≤a∧a<b∧OrdL b hi l
theorem ordL_le:∀(l:List Tk) (lo hi:Nat),OrdL lo hi l→lo≤hi
  | [],_,_,h=>h
  | t :: l,lo,hi,h=>by
    obtain ⟨a,b,_,_,h1,h2,h3⟩:=h
    have:=ordL_le l b hi h3
    omega
theorem scan_ord:∀(k:Nat) (pat:Bool) (D n:Nat) (r:List UInt8) (l:List Tk),r.length≤D→jea k pat D n r=.ok l→OrdL (D - r.length) D l:=by
  intro k
  induction k with
  | zero=>intro pat D n r l hD h;injection h with h;subst h;exact Nat.sub_le _ _
  | succ k ih =>
    intro pat D n r l hD h
    cases r with
    | nil=>rw[jez] at h;injection h with h;subst h;exact Nat.sub_le _ _
    | cons c r =>
      obtain ⟨he,hn,m,hm,rfl⟩:=jjr h;obtain ⟨h1,h2⟩:=jia (by simp) he;have hs:=jke he;simp only[List.length_cons] at hD h2 ⊢;have hsk:=jf7 ((c :: r).drop (jcy pat (c :: r)).2.2) false;rw[List.length_drop,List.length_cons] at hsk;have hsk:(skS ((c :: r).drop (jcy pat (c :: r)).2.2)).length≤r.length+1 - (jcy pat (c :: r)).2.2:=hsk;have ho:=ih pat D (n+1) _ m (by omega) hm;refine ⟨D - (r.length+1),D - (r.length+1)+(jcy pat (c :: r)).2.2,rfl,rfl,Nat.le_refl _,by omega,?_⟩
      have weak:∀(l:List Tk) (lo lo' hi:Nat),lo'≤lo→OrdL lo hi l→OrdL lo' hi l:=by
        intro l lo lo' hi hl ho
        cases l with
        | nil=>have:lo≤hi:=ho;show lo'≤hi;omega
        | cons t l=>obtain ⟨a,b,g1,g2,g3,g4,g5⟩:=ho;exact ⟨a,b,g1,g2,by omega,g4,g5⟩
      exact weak m _ _ D (by omega) ho
theorem ordL_at:∀(l:List Tk) (lo hi:Nat),OrdL lo hi l→∀i,i<l.length→(lo:Int)≤atT l i∧atT l i<enT l i∧enT l i≤(hi:Int)∧(i+1<l.length→enT l i≤atT l (i+1)):=by
  intro l
  induction l with
  | nil=>intro lo hi h i hi';simp at hi'
  | cons t l ih =>
    intro lo hi h i hi';obtain ⟨a,b,h1,h2,h3,h4,h5⟩:=h;have hle:=ordL_le l b hi h5
    cases i with
    | zero =>
      refine ⟨?_,?_,?_,fun hl=>?_⟩
      · show (lo:Int)≤t.at_;omega
      · show t.at_<t.en;omega
      · show t.en≤(hi:Int);omega
      · have:=(ih b hi h5 0 (by simpa using hl)).1;show t.en≤atT l 0;omega
    | succ i =>
      obtain ⟨g1,g2,g3,g4⟩:=ih b hi h5 i (by simpa using hi');refine ⟨?_,g2,g3,fun hl=>g4 (by simpa using hl)⟩;show (lo:Int)≤atT l i;omega
theorem jni {pat:Bool} {d:List UInt8} {T:List Tk} (h:jcx pat d=.ok T):OrdT T∧∀i,i≤T.length→jc2 T i≤(d.length:Int):=by
  unfold jcx at h;have hl:=jf7 d false;have ho:=scan_ord _ _ _ _ _ _ hl h;have key:=ordL_at _ _ _ ho;refine ⟨fun i hi=>⟨?_,(key i hi).2.1⟩,fun i hi=>?_⟩
  · cases i with
    | zero=>show (0:Int)≤_;have:=(key 0 hi).1;omega
    | succ i=>rw[last_succ];exact (key i (by omega)).2.2.2 hi
  · cases i with
    | zero=>show (0:Int)≤_;omega
    | succ i=>rw[last_succ];exact (key i (by omega)).2.2.1
end
end Go.Proofs.YtonoklmobocikaaGreatDoor
