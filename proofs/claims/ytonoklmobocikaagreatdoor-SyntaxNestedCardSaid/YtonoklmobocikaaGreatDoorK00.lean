/- Lemmas. -/
import Derived.WalkKit
import Derived.WalkSpells
import Derived.WalkLawsBesides
import Derived.OneCell
import Derived.Deep.QuietTactic
import Derived.BigQuiet
import Derived.Shelf.Strings.LastIndex
import Init.Data.List.Lemmas
import Init.Data.UInt.Lemmas
import Derived.Lib.UnsafeStr
import Derived.Lib.AppendStr
import Derived.Lib.Hide
import Derived.Maps.AppendAt
import Derived.Deep.AppendLies
import Derived.ArgAppend
import Derived.Laws.BytesArg
import Derived.Laws.AppendOwnNone
import Derived.Deep.Draws
import Derived.Deep.Slices
import Derived.Lib.SmallJoins
set_option linter.unusedVariables false
set_option linter.unusedSimpArgs false
set_option maxRecDepth 20000
set_option maxHeartbeats 6400000
namespace Go.Proofs.YtonoklmobocikaaGreatDoor
section
open Go.RowKit
open Go.RowKit
theorem jx.{u} {α:Sort u} (x:α):∃y,x=y:=⟨x,rfl⟩
theorem jj {p:Prop} (h:p):Hid p:=h
theorem jck {k:IntKind} {a b:Int} (h:a=b):Ending.returned (.int k a)=.returned (.int k b):=by rw[h]
theorem ja1 {a b:Bool} (h:a=b):Ending.returned (.bool a)=.returned (.bool b):=by rw[h]
theorem jmq (g j:Nat):(⟨g,0,none⟩:Addr).add j=⟨g,j,none⟩:=by
  unfold Addr.add;split<;>simp_all
theorem c1_one (w:World) (x:Value) (T:TypeId):∀(j:Nat) (u:Value),[x][j]?=some u→(w.alloc (.cells #[x] T)).cell? ((⟨w.heap.size,0,none⟩:Addr).add j)=some u:=by
  intro j u h
  match j,h with
  | 0,h =>
    simp at h;subst h;rw[jmq,World.cell?_alloc_mark];try rfl
open Go.RowKit
theorem size_list (s:ByteArray):s.data.toList.length=s.size:=by simp
open Go.RowKit
theorem jhu (s:ByteArray) (a:Nat):(s.extract a s.size).data.toList=s.data.toList.drop a:=by
  simp;rw[List.take_of_length_le (by simp)]
open Go.RowKit
theorem jk0 {w:World} {B B' e:Nat} {sz n:Nat} {v:Value} {xs:List Value} (h:w.ownsRow B e sz v n xs) (hB:B'≤B):w.ownsRow B' e sz v n xs:=by
  obtain ⟨h1,h2⟩:=h;refine ⟨h1,?_⟩;rcases h2 with h2 | ⟨g,cap,cur,hv,hg,r⟩
  · exact Or.inl h2
  · exact Or.inr ⟨g,cap,cur,hv,by omega,r⟩
open Go.RowKit
def Drawn (w w':World):Prop:=∃m,w'=w.drewN m
theorem Drawn.refl (w:World):Drawn w w:=⟨0,rfl⟩
theorem Drawn.more {w w':World} (h:Drawn w w') (m:Nat):Drawn w (w'.drewN m):=by
  obtain ⟨k,rfl⟩:=h;exact ⟨k+m,by simp⟩
theorem Drawn.below {w w':World} (h:Drawn w w') (B:Nat):Below B w w':=by
  obtain ⟨k,rfl⟩:=h;exact ⟨rfl,rfl,rfl,Nat.le_refl _,fun _ _=>rfl⟩
open Go.RowKit
theorem jjo (s:ByteArray) (a:Nat):(s.extract 0 a).data.toList=s.data.toList.take a:=by
  simp
open Go.RowKit
theorem jkk {P:Program} {f:FuncId} {args:Array Value} {w:World} {n:Nat} {v:Value}
    (h:Calls P f args (w.drewN n) fun e w'=>e=.returned v∧w.drewN n=w'):Calls P f args (w.drewN n) fun e w''=>e=.returned v∧∃m,w''=w.drewN m :=
  h.mono fun _ _ ⟨he,hm⟩=>⟨he,n,hm.symm⟩
open Go.RowKit
open Go.RowKit
theorem bgo {a b c:World} (h:Below a.heap.size a b) (k:Below b.heap.size b c):Below a.heap.size a c:=h.trans (k.mono h.size)
theorem jak {a b:World} (h:Below a.heap.size a b) (o:Obj):Below a.heap.size a (b.alloc o):=h.alloc h.size o
theorem bdr {a b:World} (h:Below a.heap.size a b) (m:Nat):Below a.heap.size a (b.drewN m):=h.trans (Drawn.below ⟨m,rfl⟩ _)
theorem jn0 {a b:ByteArray} (h:a.data.toList=b.data.toList):a=b:=ByteArray.ext (Array.ext' h)
theorem jk2 (s:ByteArray) (h:0<s.size):s.toList.isEmpty=false:=by
  cases h1:s.toList.isEmpty with
  | false=>rfl
  | true =>
    have h2:s=ByteArray.empty:=LastIndex.eq_of_toList (by rw[List.isEmpty_iff.1 h1];simp[ByteArray.toList,ByteArray.toList.loop]);rw[h2] at h;exact absurd h (by decide)
end
section
def dgB (c:UInt8):Bool:=decide (48≤c.toNat)&&decide (c.toNat≤57)
def ltB (c:UInt8):Bool:=(decide (65≤c.toNat)&&decide (c.toNat≤90))||(decide (97≤c.toNat)&&decide (c.toNat≤122))||c==95
def wdB (c:UInt8):Bool:=ltB c||dgB c
def visB (c:UInt8):Bool:=decide (32≤c.toNat)&&decide (c.toNat≤126)
def jkq (c:UInt8):Bool:=c==10||visB c
def blB (c:UInt8):Bool:=c==32||c==9||c==10
def kwL:List (List UInt8):=[[105,109,112,111,114,116],[99,108,97,115,115],[105,110,116,101,114,102,97,99,101],[101,120,116,101,110,100,115],
  [105,109,112,108,101,109,101,110,116,115],[102,117,110,99],[118,97,114],[114,101,116,117,114,110],[105,102],[101,108,115,101],[119,104,105,108,101],
  [110,101,119],[116,114,117,101],[102,97,108,115,101],[110,117,108,108],[116,104,105,115]]
def mkL:List (List UInt8):=[[123],[125],[40],[41],[59],[44],[58],[46],[61],[61,61],[33,61],[60],[62],[43],[45],[42],[47],[37],[33],[38,38],[124,124]]
def jjm (t:List UInt8):Bool:=kwL.contains t
def jim (t:List UInt8):Bool:=mkL.contains t
structure Tk where
  kind:Int
  text:List UInt8
  at_:Int
  en:Int
def jjk (t:List UInt8):Bool:=!t.isEmpty&&!dgB (t.headD 0)&&t.all wdB&&!jjm t
def jgq (k:Int) (t:List UInt8):Bool :=
  if k=1∨k=6∨k=7 then jjk t
  else if k=2 then jjm t
  else if k=3 then t==[48]||(!t.isEmpty&&!(t.headD 0==48)&&t.all dgB)
  else if k=4 then t.all jkq
  else if k=5 then jim t
  else false
def jl0 (k:Int):Nat:=if k=3 then 9 else if k=4 then 60 else 24
def jcd (k:Int) (t:List UInt8):Int:=if jgq k t=false then 11 else if jl0 k<t.length then 4 else 0
def jb8 (k:Int) (t:List UInt8):Bool:=jcd k t==0
def jee (c:UInt8):List UInt8:=if c=34 then [92,34] else if c=92 then [92,92] else if c=10 then [92,110] else [c]
def jff (t:List UInt8):List UInt8:=t.flatMap jee
def jhx (t:List UInt8):List UInt8:=34 :: (jff t++[34])
def jhr (k:Int) (t:List UInt8):List UInt8:=if k=4 then jhx t else if k=6 then 36 :: t else if k=7 then 36 :: 36 :: t else t
def jn2:List (List UInt8)→List UInt8
  | []=>[]
  | [x]=>x
  | x :: y :: l=>x++32 :: jn2 (y :: l)
def jc6 (l:List Tk):List UInt8:=jn2 (l.map fun t=>jhr t.kind t.text)
def jad (l:List Tk):Bool:=l.all fun t=>jb8 t.kind t.text
def jf2:List UInt8→Option (List UInt8 × Nat)
  | []=>none
  | c :: r =>
    if c=34 then some ([],1)
    else if c=92 then
      match r with
      | []=>none
      | e :: r'=>if e=34∨e=92 then (jf2 r').map fun x=>(e :: x.1,x.2+2)
        else if e=110 then (jf2 r').map fun x=>(10 :: x.1,x.2+2) else none
    else if visB c then (jf2 r).map fun x=>(c :: x.1,x.2+1) else none
def jbl (r:List UInt8):List UInt8:=r.takeWhile wdB
def jho (r:List UInt8):List UInt8:=r.takeWhile dgB
def jcy (pat:Bool) (r:List UInt8):Int × List UInt8 × Nat :=
  let c:=r.headD 0
  if dgB c then (3,jho r,(jho r).length)
  else if ltB c then (if jjm (jbl r) then 2 else 1,jbl r,(jbl r).length)
  else if c=34 then
    match jf2 r.tail with
    | none=>(0,[],0)
    | some x=>(4,x.1,x.2+1)
  else if pat=true∧c=36 then
    if r.tail.headD 0=36 then (7,jbl (r.drop 2),2+(jbl (r.drop 2)).length)
    else (6,jbl r.tail,1+(jbl r.tail).length)
  else if 2≤r.length∧jim (r.take 2)=true then (5,r.take 2,2)
  else (5,r.take 1,1)
def skB:Bool→List UInt8→List UInt8
  | _,[]=>[]
  | false,c :: r=>if blB c then skB false r else if c=47∧r.head?=some 47 then skB true r else c :: r
  | true,c :: r=>if c=10 then skB false r else skB true r
abbrev skS (r:List UInt8):List UInt8:=skB false r
def jea:Nat→Bool→Nat→Nat→List UInt8→Except (Nat × Int) (List Tk)
  | 0,_,_,_,_=>.ok []
  | _+1,_,_,_,[]=>.ok []
  | k+1,pat,D,n,c :: r =>
    let x:=jcy pat (c :: r)
    let a:=D - (r.length+1)
    if jcd x.1 x.2.1≠0 then .error (a,jcd x.1 x.2.1)
    else if 600≤n then .error (a,4)
    else match jea k pat D (n+1) (skS ((c :: r).drop x.2.2)) with
      | .error e=>.error e
      | .ok l=>.ok (⟨x.1,x.2.1,(a:Int),((a+x.2.2:Nat):Int)⟩ :: l)
def jcx (pat:Bool) (d:List UInt8):Except (Nat × Int) (List Tk):=jea (d.length+1) pat d.length 0 (skS d)
end
section
theorem tw_app {p:UInt8→Bool} (l r:List UInt8) (h:l.all p=true) (hr:∀c,r.head?=some c→p c=false):(l++r).takeWhile p=l:=by
  induction l with
  | nil =>
    cases r with
    | nil=>rfl
    | cons c r=>simp[hr c rfl]
  | cons a l ih =>
    simp only[List.all_cons,Bool.and_eq_true] at h;simp[h.1,ih h.2]
theorem tw_all {p:UInt8→Bool} (l:List UInt8):(l.takeWhile p).all p=true:=by
  induction l with
  | nil=>rfl
  | cons a l ih =>
    simp only[List.takeWhile];split
    · rename_i h;simp only[List.all_cons,h,Bool.true_and];exact ih
    · rfl
theorem jgi {p:UInt8→Bool} (l:List UInt8):(l.takeWhile p).length≤l.length:=by
  induction l with
  | nil=>exact Nat.le_refl _
  | cons a l ih =>
    simp only[List.takeWhile];split
    · simp only[List.length_cons];omega
    · simp
theorem jks {p:UInt8→Bool} (l:List UInt8):l.take (l.takeWhile p).length=l.takeWhile p:=by
  induction l with
  | nil=>rfl
  | cons a l ih =>
    simp only[List.takeWhile];split
    · simp[ih]
    · rfl
theorem jm4 {p:UInt8→Bool} (c:UInt8) (l:List UInt8) (h:p c=true):(c :: l).takeWhile p=c :: l.takeWhile p:=by simp[List.takeWhile,h]
theorem jf7:∀(r:List UInt8) (m:Bool),(skB m r).length≤r.length:=by
  intro r
  induction r with
  | nil=>intro m;cases m<;>exact Nat.le_refl _
  | cons c r ih =>
    intro m;have h1:=ih true;have h0:=ih false;cases m
    · simp only[skB];split
      · simp only[List.length_cons];omega
      · split<;>simp only[List.length_cons]<;>omega
    · simp only[skB];split<;>simp only[List.length_cons]<;>omega
theorem skB_gap:∀(r:List UInt8) (m:Bool),∃g,r=g++skB m r∧skB m g=[]:=by
  intro r
  induction r with
  | nil=>intro m;cases m<;>exact ⟨[],rfl,rfl⟩
  | cons c r ih =>
    intro m;obtain ⟨g1,e1,h1⟩:=ih true;obtain ⟨g0,e0,h0⟩:=ih false;cases m
    · simp only[skB];by_cases hb:blB c=true
      · rw[if_pos hb];exact ⟨c :: g0,by rw[List.cons_append,←e0],by simp only[skB];rw[if_pos hb,h0]⟩
      · rw[if_neg hb];by_cases hc:c=47∧r.head?=some 47
        · rw[if_pos hc];refine ⟨c :: g1,by rw[List.cons_append,←e1],?_⟩
          have hg:g1.head?=some 47:=by
            cases g1 with
            | cons x g =>
              have:=hc.2;rw[e1] at this;simpa using this
            | nil =>
              exfalso;rw[List.nil_append] at e1
              cases r with
              | nil=>simp at hc
              | cons x r =>
                simp only[List.head?_cons,Option.some.injEq] at hc;(have hx:¬x=10:=by rw[hc.2];decide);simp only[skB] at e1;rw[if_neg hx] at e1;have:=jf7 r true;rw[←e1] at this;simp only[List.length_cons] at this;omega
          simp only[skB];rw[if_neg hb,if_pos ⟨hc.1,hg⟩,h1]
        · rw[if_neg hc];exact ⟨[],rfl,rfl⟩
    · simp only[skB];split
      · rename_i hc;exact ⟨c :: g0,by rw[List.cons_append,←e0],by simp only[skB];rw[if_pos hc,h0]⟩
      · rename_i hc;exact ⟨c :: g1,by rw[List.cons_append,←e1],by simp only[skB];rw[if_neg hc,h1]⟩
def Bare (r:List UInt8):Prop:=∀c x,r=c :: x→blB c=false∧¬(c=47∧x.head?=some 47)
theorem Bare.sk {r:List UInt8} (h:Bare r):skS r=r:=by
  cases r with
  | nil=>rfl
  | cons c x =>
    obtain ⟨h1,h2⟩:=h c x rfl;simp only[skB,h1,Bool.false_eq_true,if_false,if_neg h2]
theorem jfr:∀(r:List UInt8) (m:Bool),Bare (skB m r):=by
  intro r
  induction r with
  | nil=>intro m;cases m<;>intro c x h<;>cases h
  | cons c r ih =>
    intro m;cases m
    · simp only[skB];by_cases hb:blB c=true
      · rw[if_pos hb];exact ih false
      · rw[if_neg hb];by_cases hc:c=47∧r.head?=some 47
        · rw[if_pos hc];exact ih true
        · rw[if_neg hc];intro c' x h;cases h;exact ⟨by simpa using hb,hc⟩
    · simp only[skB];split
      · exact ih false
      · exact ih true
theorem jno (r:List UInt8):jf2 (34 :: r)=some ([],1):=by
  unfold jf2;rw[if_pos rfl]
theorem jnn (e:UInt8) (r:List UInt8) (h:e=34∨e=92):jf2 (92 :: e :: r)=(jf2 r).map fun x=>(e :: x.1,x.2+2):=by
  rw[jf2.eq_def];dsimp only;rw[if_neg (by decide),if_pos rfl];rw[if_pos h]
theorem litS_feed (r:List UInt8):jf2 (92 :: 110 :: r)=(jf2 r).map fun x=>(10 :: x.1,x.2+2):=by
  rw[jf2.eq_def];dsimp only;rw[if_neg (by decide),if_pos rfl];rw[if_neg (by decide),if_pos rfl]
theorem litS_no (e:UInt8) (r:List UInt8) (h:¬(e=34∨e=92)) (h2:¬e=110):jf2 (92 :: e :: r)=none:=by
  rw[jf2.eq_def];dsimp only;rw[if_neg (by decide),if_pos rfl];rw[if_neg h,if_neg h2]
theorem litS_last:jf2 [92]=none:=by
  rw[jf2.eq_def];dsimp only;rw[if_neg (by decide),if_pos rfl]
theorem jmn (c:UInt8) (r:List UInt8) (h1:¬c=34) (h2:¬c=92) (h3:visB c=true):jf2 (c :: r)=(jf2 r).map fun x=>(c :: x.1,x.2+1):=by
  rw[jf2.eq_def];dsimp only;simp only[if_neg h1,if_neg h2,if_pos h3]
theorem litS_bad (c:UInt8) (r:List UInt8) (h1:¬c=34) (h2:¬c=92) (h3:visB c=false):jf2 (c :: r)=none:=by
  rw[jf2.eq_def];dsimp only;simp only[if_neg h1,if_neg h2,h3,Bool.false_eq_true,if_false]
theorem jlt:∀(k:Nat) (r:List UInt8),r.length≤k→∀t n,jf2 r=some (t,n)→n≤r.length∧1≤n∧t.all jkq=true∧t.length≤n:=by
  intro k
  induction k with
  | zero =>
    intro r h t n e
    cases r with
    | nil=>cases e
    | cons c r=>simp at h
  | succ k ih =>
    intro r h t n e
    cases r with
    | nil=>cases e
    | cons c r =>
      simp only[List.length_cons] at h;unfold jf2 at e;split at e
      · injection e with e;injection e with e1 e2;subst e1;subst e2;simp
      · split at e
        · cases r with
          | nil=>cases e
          | cons b r =>
            simp only[List.length_cons] at h;dsimp only at e;split at e
            · rename_i hb;rw[Option.map_eq_some_iff] at e;obtain ⟨⟨t1,n1⟩,e1,e2⟩:=e;have:=ih r (by omega) t1 n1 e1;injection e2 with e2 e3;subst e2;subst e3;simp only[List.length_cons,List.all_cons];refine ⟨by omega,by omega,?_,by omega⟩;rw[this.2.2.1,Bool.and_true];rcases hb with hb | hb<;>subst hb<;>decide
            · split at e
              · rw[Option.map_eq_some_iff] at e;obtain ⟨⟨t1,n1⟩,e1,e2⟩:=e;have:=ih r (by omega) t1 n1 e1;injection e2 with e2 e3;subst e2;subst e3;simp only[List.length_cons,List.all_cons];refine ⟨by omega,by omega,?_,by omega⟩;rw[this.2.2.1,Bool.and_true];decide
              · cases e
        · split at e
          · rename_i hv;rw[Option.map_eq_some_iff] at e;obtain ⟨⟨t1,n1⟩,e1,e2⟩:=e;have:=ih r (by omega) t1 n1 e1;injection e2 with e2 e3;subst e2;subst e3;simp only[List.length_cons,List.all_cons];refine ⟨by omega,by omega,?_,by omega⟩;rw[this.2.2.1,Bool.and_true,jkq,hv,Bool.or_true]
          · cases e
end
section
theorem lt_wd {c:UInt8} (h:ltB c=true):wdB c=true:=by unfold wdB;rw[h,Bool.true_or]
theorem wd_lt {c:UInt8} (h:wdB c=true) (h2:dgB c=false):ltB c=true:=by unfold wdB at h;rwa [h2,Bool.or_false] at h
theorem dg_lt {c:UInt8} (h:dgB c=true):ltB c=false:=by
  unfold dgB at h;simp only[Bool.and_eq_true,decide_eq_true_eq] at h
  have h95:(c==95)=false:=by
    rw[beq_eq_false_iff_ne];intro e;subst e;exact absurd h.2 (by decide)
  unfold ltB;rw[h95,Bool.or_false,Bool.or_eq_false_iff];exact ⟨by rw[decide_eq_false (show ¬65≤c.toNat by omega),Bool.false_and],by rw[decide_eq_false (show ¬97≤c.toNat by omega),Bool.false_and]⟩
theorem lt_dg {c:UInt8} (h:ltB c=true):dgB c=false:=by
  cases h2:dgB c with
  | false=>rfl
  | true=>rw[dg_lt h2] at h;cases h
theorem mem_mk {t:List UInt8} (h:jim t=true):t∈mkL:=by unfold jim at h;simpa using h
theorem jlv:∀t∈kwL,t.all wdB=true∧t.isEmpty=false∧ltB (t.headD 0)=true∧t.length≤24:=by decide
theorem jnm:∀t∈mkL,dgB (t.headD 0)=false∧ltB (t.headD 0)=false∧blB (t.headD 0)=false∧¬t.headD 0=34∧¬t.headD 0=36∧t.length≤2∧t.isEmpty=false∧(t.length=1→jim (t++[32])=false∧jim (t++[10])=false)∧(t.headD 0=47→t=[47]):=by decide
theorem jf9 {pat:Bool} {r:List UInt8} (h:dgB (r.headD 0)=true):jcy pat r=(3,jho r,(jho r).length):=by
  unfold jcy;dsimp only;rw[if_pos h]
theorem jdr {pat:Bool} {r:List UInt8} (h:ltB (r.headD 0)=true):jcy pat r=(if jjm (jbl r) then 2 else 1,jbl r,(jbl r).length):=by
  unfold jcy;dsimp only;rw[if_neg (by rw[lt_dg h];decide),if_pos h]
theorem jeq (pat:Bool) (r:List UInt8):jcy pat (34 :: r)=match jf2 r with | none=>(0,[],0) | some x=>(4,x.1,x.2+1):=by
  unfold jcy;change (if dgB 34=true then _ else if ltB 34=true then _ else if (34:UInt8)=34 then _ else _)=_;rw[if_neg (show ¬dgB 34=true by decide),if_neg (show ¬ltB 34=true by decide),if_pos rfl];try rfl
theorem jg9 (r:List UInt8):jcy true (36 :: 36 :: r)=(7,jbl r,2+(jbl r).length):=by
  unfold jcy;change (if dgB 36=true then _ else if ltB 36=true then _ else if (36:UInt8)=34 then _ else if true=true∧(36:UInt8)=36 then (if (36:UInt8)=36 then (7,jbl r,2+(jbl r).length) else _) else _)=_;rw[if_neg (show ¬dgB 36=true by decide),if_neg (show ¬ltB 36=true by decide),if_neg (by decide),if_pos ⟨rfl,rfl⟩,if_pos rfl]
theorem jg8 (r:List UInt8) (h:¬r.headD 0=36):jcy true (36 :: r)=(6,jbl r,1+(jbl r).length):=by
  unfold jcy;change (if dgB 36=true then _ else if ltB 36=true then _ else if (36:UInt8)=34 then _ else if true=true∧(36:UInt8)=36 then (if r.headD 0=36 then _ else (6,jbl r,1+(jbl r).length)) else _)=_;rw[if_neg (show ¬dgB 36=true by decide),if_neg (show ¬ltB 36=true by decide),if_neg (by decide),if_pos ⟨rfl,rfl⟩,if_neg h]
theorem jds {pat:Bool} {c:UInt8} {r:List UInt8} (h1:dgB c=false) (h2:ltB c=false) (h3:¬c=34) (h4:¬(pat=true∧c=36)) :
    jcy pat (c :: r)=if 2≤(c :: r).length∧jim ((c :: r).take 2)=true then (5,(c :: r).take 2,2) else (5,(c :: r).take 1,1):=by
  unfold jcy;dsimp only[List.headD_cons];rw[if_neg (by rw[h1];decide),if_neg (by rw[h2];decide),if_neg h3,if_neg h4]
theorem word_ne {r:List UInt8} (h:ltB (r.headD 0)=true):∃c x,r=c :: x∧jbl r=c :: jbl x:=by
  cases r with
  | nil=>exact absurd h (by decide)
  | cons c x=>exact ⟨c,x,rfl,jm4 c x (lt_wd h)⟩
theorem int_ne {r:List UInt8} (h:dgB (r.headD 0)=true):∃c x,r=c :: x∧jho r=c :: jho x:=by
  cases r with
  | nil=>exact absurd h (by decide)
  | cons c x=>exact ⟨c,x,rfl,jm4 c x h⟩
theorem jhk (pat:Bool) (c:UInt8) :
    dgB c=true∨(ltB c=true)∨c=34∨(pat=true∧c=36)∨(dgB c=false∧ltB c=false∧¬c=34∧¬(pat=true∧c=36)):=by
  by_cases h1:dgB c=true
  · exact Or.inl h1
  · by_cases h2:ltB c=true
    · exact Or.inr (Or.inl h2)
    · by_cases h3:c=34
      · exact Or.inr (Or.inr (Or.inl h3))
      · by_cases h4:pat=true∧c=36
        · exact Or.inr (Or.inr (Or.inr (Or.inl h4)))
        · exact Or.inr (Or.inr (Or.inr (Or.inr ⟨by simpa using h1,by simpa using h2,h3,h4⟩)))
theorem jgr {k:Int} {t:List UInt8} (h:jb8 k t=true):jcd k t=0:=by unfold jb8 at h;simpa using h
theorem jlm {k:Int} {t:List UInt8} (h:jcd k t=0):jb8 k t=true:=by unfold jb8;rw[h];try rfl
theorem jfy {k:Int} {t:List UInt8} (h:jb8 k t=true):jgq k t=true∧t.length≤jl0 k:=by
  have h:=jgr h;unfold jcd at h;split at h
  · cases h
  · split at h
    · cases h
    · rename_i h1 h2;exact ⟨by simpa using h1,by omega⟩
theorem fault_le (k:Int) (t:List UInt8):jcd k t=0∨jcd k t=11∨jcd k t=4:=by
  unfold jcd;split
  · exact Or.inr (Or.inl rfl)
  · split
    · exact Or.inr (Or.inr rfl)
    · exact Or.inl rfl
theorem form1 (t:List UInt8):jgq 1 t=jjk t:=by unfold jgq;rw[if_pos (Or.inl rfl)]
theorem form6 (t:List UInt8):jgq 6 t=jjk t:=by unfold jgq;rw[if_pos (by decide)]
theorem form7 (t:List UInt8):jgq 7 t=jjk t:=by unfold jgq;rw[if_pos (by decide)]
theorem form2 (t:List UInt8):jgq 2 t=jjm t:=by unfold jgq;rw[if_neg (by decide),if_pos rfl]
theorem form3 (t:List UInt8):jgq 3 t=(t==[48]||(!t.isEmpty&&!(t.headD 0==48)&&t.all dgB)):=by
  unfold jgq;rw[if_neg (by decide),if_neg (by decide),if_pos rfl]
theorem form4 (t:List UInt8):jgq 4 t=t.all jkq:=by unfold jgq;rw[if_neg (by decide),if_neg (by decide),if_neg (by decide),if_pos rfl]
theorem form5 (t:List UInt8):jgq 5 t=jim t:=by unfold jgq;rw[if_neg (by decide),if_neg (by decide),if_neg (by decide),if_neg (by decide),if_pos rfl]
theorem pre_len {pat:Bool} {r:List UInt8} (hr:r≠[]) (h:jcd (jcy pat r).1 (jcy pat r).2.1=0):1≤(jcy pat r).2.2∧(jcy pat r).2.2≤r.length:=by
  cases r with
  | nil=>exact absurd rfl hr
  | cons c x =>
    rcases jhk pat c with h1 | h1 | h1 | h1 | ⟨h1,h2,h3,h4⟩
    · rw[jf9 (r:=c :: x) h1];obtain ⟨_,_,e,e2⟩:=int_ne (r:=c :: x) h1;exact ⟨by rw[e2];simp,jgi _⟩
    · rw[jdr (r:=c :: x) h1];obtain ⟨_,_,e,e2⟩:=word_ne (r:=c :: x) h1;exact ⟨by rw[e2];simp,jgi _⟩
    · subst h1;rw[jeq] at h ⊢
      cases hl:jf2 x with
      | none=>rw[hl] at h;exact absurd h (by decide)
      | some y =>
        have:=jlt _ x (Nat.le_refl _) y.1 y.2 hl;simp only[List.length_cons];omega
    · obtain ⟨rfl,rfl⟩:=h1;by_cases hm:x.headD 0=36
      · cases x with
        | nil=>exact absurd hm (by decide)
        | cons y x =>
          have hy:y=36:=hm;subst hy;rw[jg9];have:(jbl x).length≤x.length:=jgi x;simp only[List.length_cons];omega
      · rw[jg8 x hm];have:(jbl x).length≤x.length:=jgi x;simp only[List.length_cons];omega
    · rw[jds h1 h2 h3 h4];split
      · rename_i h;exact ⟨Nat.le_succ 1,h.1⟩
      · simp
end
section
theorem jez (k:Nat) (pat:Bool) (D n:Nat):jea k pat D n []=.ok []:=by cases k<;>rfl
def jgj (pat:Bool) (r:List UInt8):Int:=jcd (jcy pat r).1 (jcy pat r).2.1
theorem jkh {k:Nat} {pat:Bool} {D n:Nat} {c:UInt8} {r:List UInt8} (h:jgj pat (c :: r)≠0):jea (k+1) pat D n (c :: r)=.error (D - (r.length+1),jgj pat (c :: r)):=by
  show (if jgj pat (c :: r)≠0 then _ else _)=_;rw[if_pos h];try rfl
theorem jjs {k:Nat} {pat:Bool} {D n:Nat} {c:UInt8} {r:List UInt8} (h:jgj pat (c :: r)=0) (hn:600≤n):jea (k+1) pat D n (c :: r)=.error (D - (r.length+1),4):=by
  show (if jgj pat (c :: r)≠0 then _ else _)=_;rw[if_neg (by intro h2;exact h2 h),if_pos hn]
theorem ji4 {k:Nat} {pat:Bool} {D n:Nat} {c:UInt8} {r:List UInt8} (h:jgj pat (c :: r)=0) (hn:n<600) :
    jea (k+1) pat D n (c :: r)=match jea k pat D (n+1) (skS ((c :: r).drop (jcy pat (c :: r)).2.2)) with
      | .error e=>.error e
      | .ok l=>.ok (⟨(jcy pat (c :: r)).1,(jcy pat (c :: r)).2.1,((D - (r.length+1):Nat):Int),((D - (r.length+1)+(jcy pat (c :: r)).2.2:Nat):Int)⟩ :: l):=by
  show (if jgj pat (c :: r)≠0 then _ else _)=_;rw[if_neg (by intro h2;exact h2 h),if_neg (by omega)];try rfl
theorem jia {pat:Bool} {r:List UInt8} (hr:r≠[]) (h:jgj pat r=0):1≤(jcy pat r).2.2∧(jcy pat r).2.2≤r.length:=pre_len hr h
theorem jke {pat:Bool} {c:UInt8} {r:List UInt8} (h:jgj pat (c :: r)=0):(skS ((c :: r).drop (jcy pat (c :: r)).2.2)).length≤r.length:=by
  have h1:=jia (by simp) h;have h2:=jf7 ((c :: r).drop (jcy pat (c :: r)).2.2) false;rw[List.length_drop,List.length_cons] at h2;unfold skS;omega
theorem scan_facts:∀(k:Nat) (pat:Bool) (D n:Nat) (r:List UInt8),r.length≤D→n≤600 →
    (∀l,jea k pat D n r=.ok l→jad l=true∧n+l.length≤600)∧(∀a e,jea k pat D n r=.error (a,e)→a<D∧e≠0):=by
  intro k
  induction k with
  | zero =>
    intro pat D n r h hn;refine ⟨fun l e=>?_,fun a e h=>(by cases h)⟩;injection e with e;subst e;exact ⟨rfl,by simpa using hn⟩
  | succ k ih =>
    intro pat D n r h hn
    cases r with
    | nil =>
      refine ⟨fun l e=>?_,fun a e h=>(by cases h)⟩;injection e with e;subst e;exact ⟨rfl,by simpa using hn⟩
    | cons c r =>
      simp only[List.length_cons] at h;by_cases he:jgj pat (c :: r)=0
      · by_cases hn':n<600
        · have hl:=jke he;obtain ⟨h1,h2⟩:=ih pat D (n+1) (skS ((c :: r).drop (jcy pat (c :: r)).2.2)) (by omega) (by omega);rw[ji4 he hn']
          cases hs:jea k pat D (n+1) (skS ((c :: r).drop (jcy pat (c :: r)).2.2)) with
          | error x =>
            refine ⟨fun l e=>(by cases e),fun a e h=>?_⟩;injection h with h;subst h;exact h2 a e hs
          | ok m =>
            refine ⟨fun l e=>?_,fun a e h=>(by cases h)⟩;injection e with e;subst e;obtain ⟨h3,h4⟩:=h1 m hs;refine ⟨?_,by simp only[List.length_cons];omega⟩;unfold jad at h3 ⊢;rw[List.all_cons,h3,Bool.and_true];exact jlm he
        · rw[jjs he (by omega)];refine ⟨fun l e=>(by cases e),fun a e h=>?_⟩;injection h with h;injection h with ha hb;exact ⟨by omega,by omega⟩
      · rw[jkh he];refine ⟨fun l e=>(by cases e),fun a e h=>?_⟩;injection h with h;injection h with ha hb;exact ⟨by omega,by rw[←hb];exact he⟩
theorem jc0 (pat:Bool) (d:List UInt8):(∀l,jcx pat d=.ok l→jad l=true∧l.length≤600)∧(∀a e,jcx pat d=.error (a,e)→a<d.length∧e≠0):=by
  have:=scan_facts (d.length+1) pat d.length 0 (skS d) (jf7 d false) (by omega);simpa [jcx] using this
end
section
open Go.RowKit
open Go.Lib (byteCells strCells)
open Go.ChangeShapes (block_add)
open Go.Deep (add_add)
def Reads (w:World) (B:Nat) (A:Option Addr) (n:Nat) (xs:List Value):Prop :=
  xs.length=n∧∀k u,xs[k]?=some u→∃ad,A=some ad∧ad.block<B∧w.cell? (ad.add k)=some u
section
variable {w w':World} {B B' n:Nat} {A:Option Addr} {xs:List Value}
theorem Reads.nil:Reads w B A 0 []:=⟨rfl,fun k u h=>by simp at h⟩
theorem Reads.at_ {k:Nat} (h:Reads w B A n xs) (hk:k<n):∃ad u,A=some ad∧ad.block<B∧xs[k]?=some u∧w.cell? (ad.add k)=some u:=by
  have hx:xs[k]?=some (xs[k]'(by rw[h.1];exact hk)):=List.getElem?_eq_getElem _;obtain ⟨ad,h1,h2,h3⟩:=h.2 k _ hx;exact ⟨ad,_,h1,h2,hx,h3⟩
theorem Reads.of_own {base:Nat} {e:TypeId} {c:Nat} (h:w.ownsRow base e 1 (.slice A n c) n xs):Reads w w.heap.size A n xs:=by
  refine ⟨by rw[h.1,Nat.mul_one],fun k u hu=>?_⟩;(have hk:k<n:=by rw[←Nat.mul_one n,←h.1];exact (List.getElem?_eq_some_iff.1 hu).1);obtain ⟨g,cap,hv,_,hlt⟩:=h.form (by omega);simp only[Value.slice.injEq] at hv;obtain ⟨rfl,_⟩:=hv;exact ⟨_,rfl,hlt,h.cells (g:=g) rfl k u hu⟩
end
def Own (w:World) (B:Nat) (e:TypeId) (v:Value) (xs:List Value):Prop:=w.ownsRow B e 1 v xs.length xs
theorem jhm {w w':World} {B e:Nat} {sz n:Nat} {v:Value} {xs:List Value} (h:w.ownsRow B e sz v n xs) (hb:Below w.heap.size w w'):w'.ownsRow B e sz v n xs:=by
  obtain ⟨h1,h2⟩:=h;refine ⟨h1,?_⟩;rcases h2 with h2 | ⟨g,cap,cur,hv,hg,hh,r⟩
  · exact Or.inl h2
  · exact Or.inr ⟨g,cap,cur,hv,hg,(hb.block g (lt_of_block hh)).trans hh,r⟩
theorem Own.below {w w':World} {B:Nat} {e:TypeId} {v:Value} {xs:List Value} (h:Own w B e v xs) (hb:Below w.heap.size w w'):Own w' B e v xs:=jhm h hb
def Sl (w:World) (A:Option Addr) (n c:Nat) (xs:List Value):Prop:=n≤c∧c≤9223372036854775807∧(A=none→c=0)∧Reads w w.heap.size A n xs
theorem Sl.nil (w:World):Sl w none 0 0 []:=⟨Nat.le_refl _,by omega,fun _=>rfl,Reads.nil⟩
theorem Own.sl {w:World} {B:Nat} {e:TypeId} {v:Value} {xs:List Value} (h:Own w B e v xs):∃A c,v=.slice A xs.length c∧Sl w A xs.length c xs:=by
  have h':=h;rcases h'.2 with ⟨rfl,h0⟩ | ⟨g,cap,cur,rfl,hb,hg,hc,hm,r⟩
  · obtain rfl:xs=[]:=List.eq_nil_of_length_eq_zero h0;exact ⟨none,0,rfl,Sl.nil w⟩
  · exact ⟨_,cap,rfl,hc,by unfold maxLen at hm;omega,fun e=>(by cases e),Reads.of_own h⟩
theorem Sl.reads {w:World} {A:Option Addr} {n c:Nat} {xs:List Value} (h:Sl w A n c xs):Reads w w.heap.size A n xs:=h.2.2.2
theorem lit_sl (w:World) (cs:Array Value) (T:TypeId) (xs:List Value) (n:Nat) (hx:cs.toList=xs) (hn:xs.length=n) (hm:n≤9223372036854775807):Sl (w.alloc (.cells cs T)) (some ⟨w.heap.size,0,none⟩) n n xs:=by
  refine ⟨Nat.le_refl _,hm,(fun e=>by cases e),hn,fun j u hu=>⟨_,rfl,by simp,?_⟩⟩;rw[jmq,World.cell?_alloc_mark,←hu,←hx];simp
def Far (w w':World) (v v':Value):Prop:=w.heap.size≤w'.heap.size∧∀g,g<w.heap.size→v.ownBlock≠some g→w'.heap[g]?=w.heap[g]?∧v'.ownBlock≠some g
section
variable {P:Program} {ops:Array Oper} {rest:List Oper} {o:Oper} {a:Act} {Q:Exit→Act→World→Prop}
theorem jf3 (hgd:o.guard=none) (s x:Operand) (t:TypeId) (ho:o.op=.call { callee:=.builtin .append,args:=#[s,x],argTypes:=#[t,t] })
    (e:TypeId) (i:TypeInfo) (z:Value) (bytes:Nat) (ht:P.underlying t=some (.slice e)) (hi:P.info? e=some i) (hz:i.zero=some z) (hsize:i.size=1) (hby:i.bytes=bytes) (hzs:z.cells.size=1)
    (B:Nat) (v:Value) (xs:List Value) (hs:a.eval s=v) (w0:World) (c:Value) (hc:c.oneCell'=true) (hown:Own w0 B e v xs) (hB:B≤w0.heap.size) (H:Nat) (hH:H=w0.heap.size)
    (hx:a.eval x=.slice (some ⟨H,0,none⟩) 1 1) (hlen:(xs.length+1)*bytes≤140737488355328) (h63:xs.length+1≤maxLen) (T:TypeId)
    (h:∀v' w',Own w' B e v' (xs++[c])→Below B w0 w'→Far w0 w' v v'→wpList P ops Q rest (a.put o.dst v') w'):wpList P ops Q (o :: rest) a (w0.alloc (.cells #[c] T)):=by
  subst hH;(have hsz:w0.heap.size<(w0.alloc (.cells #[c] T)).heap.size:=by simp);(have hone:∀u∈[c],u.oneCell'=true:=by intro u hu;simp at hu;subst hu;exact hc);(have hl1:(xs++[c]).length=xs.length+1:=by simp);refine wpList_append_own_at _ hgd s x t ho B e i z 1 bytes ht hi hz hsize hby hzs (by decide) v xs.length xs hs (hown.alloc _) ⟨w0.heap.size,0,none⟩ 1 1 [c] hx rfl (c1_one _ _ _) hone h63 hlen (by omega) ?_;intro v' w' hown' hg _ hat;refine h v' w' (by unfold Own;rw[hl1];exact hown') ?_ ⟨by have:=hg.size;omega,fun g hlt hne=>⟨?_,?_⟩⟩
  · exact ((Below.refl B w0).alloc hB _).grown hg (by omega) fun k hk=>(hown.lt k hk).1
  · exact (hg.block g (by omega) (fun e=>hne e.symm)).trans (((Below.refl w0.heap.size w0).alloc (Nat.le_refl _) _).block g hlt)
  · rcases hat with hat | hat
    · rw[hat];exact hne
    · rw[hat];intro e;injection e with e;omega
end
end
end Go.Proofs.YtonoklmobocikaaGreatDoor
