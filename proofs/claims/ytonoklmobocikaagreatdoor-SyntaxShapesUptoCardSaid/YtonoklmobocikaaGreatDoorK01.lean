/- Lemmas. -/
import Derived.Test.YtonoklmobocikaaGreatDoorProg
import Derived.Test.YtonoklmobocikaaGreatDoorK00
set_option linter.unusedVariables false
set_option linter.unusedSimpArgs false
set_option maxRecDepth 20000
set_option maxHeartbeats 6400000
namespace Go.Proofs.YtonoklmobocikaaGreatDoor
section
open Go.RowKit
open Go.ChangeShapes (block_add)
def bs (l:List UInt8):ByteArray:=⟨l.toArray⟩
theorem jac (l:List UInt8):(bs l).data.toList=l:=by simp[bs]
theorem jbs (l:List UInt8):(bs l).size=l.length:=by show l.toArray.size=_;simp
theorem bs_app (a b:List UInt8):bs a++bs b=bs (a++b):=by
  refine jn0 ?_;rw[ByteArray.toList_data_append,jac,jac,jac]
theorem jj9 (s:ByteArray):bs s.data.toList=s:=jn0 (jac _)
theorem jeu (s:ByteArray) (k:Nat):s.extract k s.size=bs (s.data.toList.drop k):=by
  refine jn0 ?_;rw[jhu,jac]
theorem jl5 (s:ByteArray) (k:Nat):s.extract 0 k=bs (s.data.toList.take k):=by
  refine jn0 ?_;rw[jjo,jac]
def jfu (l:List Tk):List Value:=l.flatMap fun t=>[.int .i64 t.kind,.string (bs t.text),.int .i64 t.at_,.int .i64 t.en]
theorem tkCells_app (a b:List Tk):jfu (a++b)=jfu a++jfu b:=by simp[jfu]
theorem tkCells_get (l:List Tk) (i:Nat) (t:Tk) (h:l[i]?=some t) :
    (jfu l)[i*4]?=some (.int .i64 t.kind)∧(jfu l)[i*4+1]?=some (.string (bs t.text))∧(jfu l)[i*4+2]?=some (.int .i64 t.at_)∧(jfu l)[i*4+3]?=some (.int .i64 t.en):=by
  induction l generalizing i with
  | nil=>simp at h
  | cons x l ih =>
    have e:jfu (x :: l)=.int .i64 x.kind :: .string (bs x.text) :: .int .i64 x.at_ :: .int .i64 x.en :: jfu l:=rfl;rw[e]
    cases i with
    | zero =>
      simp at h;subst h;exact ⟨rfl,rfl,rfl,rfl⟩
    | succ i =>
      simp at h;have:=ih i h;rw[show (i+1)*4=i*4+1+1+1+1 by omega,show i*4+1+1+1+1+1=(i*4+1)+1+1+1+1 by omega,show i*4+1+1+1+1+2=(i*4+2)+1+1+1+1 by omega,show i*4+1+1+1+1+3=(i*4+3)+1+1+1+1 by omega];exact this
def TkS (W:World) (A:Option Addr) (n c:Nat) (l:List Tk):Prop :=
  n≤c∧c≤9223372036854775807∧l.length=n∧∀i t,l[i]?=some t→∃g o,A=some ⟨g,o,none⟩∧W.cell? ⟨g,o+i*4,none⟩=some (.int .i64 t.kind)∧W.cell? ⟨g,o+i*4+1,none⟩=some (.string (bs t.text)) ∧
    W.cell? ⟨g,o+i*4+2,none⟩=some (.int .i64 t.at_)∧W.cell? ⟨g,o+i*4+3,none⟩=some (.int .i64 t.en)
theorem TkS.below {W W':World} {A:Option Addr} {n c:Nat} {l:List Tk} (h:TkS W A n c l) (hb:Below W.heap.size W W'):TkS W' A n c l:=by
  refine ⟨h.1,h.2.1,h.2.2.1,fun i t ht=>?_⟩;obtain ⟨g,o,hA,h0,h1,h2,h3⟩:=h.2.2.2 i t ht;have key:∀(k:Nat) (u:Value),W.cell? ⟨g,k,none⟩=some u→W'.cell? ⟨g,k,none⟩=some u:=fun k u hu=>(hb.cell (World.block_lt_of_cell? _ _ hu)).trans hu;exact ⟨g,o,hA,key _ _ h0,key _ _ h1,key _ _ h2,key _ _ h3⟩
theorem TkS.at_ {W:World} {A:Option Addr} {n c:Nat} {l:List Tk} (h:TkS W A n c l) {k:Nat} (hk:k<n) :
    ∃g o t,A=some ⟨g,o,none⟩∧l[k]?=some t∧W.cell? ⟨g,o+k*4,none⟩=some (.int .i64 t.kind)∧W.cell? ⟨g,o+k*4+1,none⟩=some (.string (bs t.text)) ∧
    W.cell? ⟨g,o+k*4+2,none⟩=some (.int .i64 t.at_)∧W.cell? ⟨g,o+k*4+3,none⟩=some (.int .i64 t.en):=by
  (have hl:k<l.length:=by rw[h.2.2.1];exact hk);obtain ⟨g,o,hA,h0⟩:=h.2.2.2 k _ (List.getElem?_eq_getElem hl);exact ⟨g,o,l[k],hA,List.getElem?_eq_getElem hl,h0⟩
theorem TkS.nil (W:World):TkS W none 0 0 []:=⟨Nat.le_refl _,by omega,rfl,fun i t h=>by simp at h⟩
def OwnT (W:World) (B:Nat) (v:Value) (l:List Tk):Prop:=W.ownsRow B 66 4 v l.length (jfu l)
theorem OwnT.nil (W:World) (B:Nat):OwnT W B (.slice none 0 0) []:=World.ownsRow_nil _ _ _ _
theorem OwnT.below {W W':World} {B:Nat} {v:Value} {l:List Tk} (h:OwnT W B v l) (hb:Below W.heap.size W W'):OwnT W' B v l:=jhm h hb
theorem OwnT.s {W:World} {B:Nat} {v:Value} {l:List Tk} (h:OwnT W B v l):∃A n c,v=.slice A n c∧n=l.length∧TkS W A n c l:=by
  have h':W.ownsRow B 66 4 v l.length (jfu l):=h;have h1':=h';rcases h1'.2 with ⟨rfl,h0⟩ | ⟨g,cap,cur,rfl,hb,hg,hc,hm,r⟩
  · obtain rfl:l=[]:=List.eq_nil_of_length_eq_zero h0;exact ⟨none,0,0,rfl,rfl,TkS.nil W⟩
  · refine ⟨_,l.length,cap,rfl,rfl,hc,by unfold maxLen at hm;omega,rfl,fun i x hx=>?_⟩;have hi:=(List.getElem?_eq_some_iff.1 hx).1;obtain ⟨e0,e1,e2,e3⟩:=tkCells_get l i x hx;refine ⟨g,0,rfl,?_,?_,?_,?_⟩
    · rw[Nat.zero_add,h'.cellAt (i*4) (by omega)];exact e0
    · rw[Nat.zero_add,h'.cellAt (i*4+1) (by omega)];exact e1
    · rw[Nat.zero_add,h'.cellAt (i*4+2) (by omega)];exact e2
    · rw[Nat.zero_add,h'.cellAt (i*4+3) (by omega)];exact e3
theorem infoTk:(Tryz.prog.info? 66).map (fun i=>(i.zero,i.size,i.bytes))=some (some (.agg #[.int .i64 0,.string ⟨#[]⟩,.int .i64 0,.int .i64 0]),4,40):=by kernel_rfl
theorem c1_four (w:World) (x y z u:Value) (T:TypeId):∀(j:Nat) (v:Value),[x,y,z,u][j]?=some v→(w.alloc (.cells #[x,y,z,u] T)).cell? ((⟨w.heap.size,0,none⟩:Addr).add j)=some v:=by
  intro j v h
  match j,h with
  | 0,h=>simp at h;subst h;rw[jmq,World.cell?_alloc_mark];try rfl
  | 1,h=>simp at h;subst h;rw[jmq,World.cell?_alloc_mark];try rfl
  | 2,h=>simp at h;subst h;rw[jmq,World.cell?_alloc_mark];try rfl
  | 3,h=>simp at h;subst h;rw[jmq,World.cell?_alloc_mark];try rfl
section
variable {P:Program} {ops:Array Oper} {rest:List Oper} {o:Oper} {a:Act} {Q:Exit→Act→World→Prop}
theorem jid (hgd:o.guard=none) (s x:Operand) (t:TypeId) (ho:o.op=.call { callee:=.builtin .append,args:=#[s,x],argTypes:=#[t,t] })
    (i:TypeInfo) (z:Value) (bytes:Nat) (ht:P.underlying t=some (.slice 66)) (hi:P.info? 66=some i) (hz:i.zero=some z) (hsize:i.size=4) (hby:i.bytes=bytes) (hzs:z.cells.size=4)
    (B:Nat) (v:Value) (l:List Tk) (hs:a.eval s=v) (w0:World) (r:Tk) (c0 c1 c2 c3:Value) (h0:c0=.int .i64 r.kind) (h1:c1=.string (bs r.text)) (h2:c2=.int .i64 r.at_) (h3:c3=.int .i64 r.en) (hown:OwnT w0 B v l) (hB:B≤w0.heap.size) (H:Nat) (hH:H=w0.heap.size)
    (hx:a.eval x=.slice (some ⟨H,0,none⟩) 1 1) (hlen:(l.length+1)*bytes≤140737488355328) (h63:l.length+1≤maxLen) (T:TypeId)
    (h:∀v' w',OwnT w' B v' (l++[r])→Below B w0 w'→Far w0 w' v v'→wpList P ops Q rest (a.put o.dst v') w'):wpList P ops Q (o :: rest) a (w0.alloc (.cells #[c0,c1,c2,c3] T)):=by
  subst hH h0 h1 h2 h3
  have hone:∀u∈[Value.int .i64 r.kind,.string (bs r.text),.int .i64 r.at_,.int .i64 r.en],u.oneCell'=true:=by
    intro u hu;simp at hu;rcases hu with rfl | rfl | rfl | rfl<;>rfl
  refine wpList_append_own_at _ hgd s x t ho B 66 i z 4 bytes ht hi hz hsize hby hzs (by decide) v l.length (jfu l) hs (World.ownsRow.alloc hown _) ⟨w0.heap.size,0,none⟩ 1 1 [.int .i64 r.kind,.string (bs r.text),.int .i64 r.at_,.int .i64 r.en] hx rfl (c1_four _ _ _ _ _ _) hone h63 hlen (by simp;omega) ?_;intro v' w' hown' hg _ hat;refine h v' w' ?_ (((Below.refl B w0).alloc hB _).grown hg (by simp;omega) fun k hk=>(World.ownsRow.lt hown k hk).1) ⟨by have:=hg.size;simp at this;omega,fun g hlt hne=>⟨?_,?_⟩⟩
  · unfold OwnT;rw[List.length_append,tkCells_app];exact hown'
  · exact (hg.block g (by simp;omega) (fun e=>hne e.symm)).trans (((Below.refl w0.heap.size w0).alloc (Nat.le_refl _) _).block g hlt)
  · rcases hat with hat | hat
    · rw[hat];exact hne
    · rw[hat];intro e;injection e with e;simp at e;omega
end
def Four (w:World) (b:Nat) (c0 c1 c2 c3:Value):Prop :=
  b<w.heap.size∧w.cell? ⟨b,0,none⟩=some c0∧w.cell? ⟨b,1,none⟩=some c1∧w.cell? ⟨b,2,none⟩=some c2∧w.cell? ⟨b,3,none⟩=some c3
theorem jet (w:World) (c0 c1 c2 c3:Value) (T:TypeId):Four (w.alloc (.cells #[c0,c1,c2,c3] T)) w.heap.size c0 c1 c2 c3:=by
  refine ⟨by simp,?_,?_,?_,?_⟩<;>(rw[World.cell?_alloc_mark];rfl)
theorem Four.keep {w w':World} {b:Nat} {c0 c1 c2 c3:Value} (h:Four w b c0 c1 c2 c3) (hb:Below w.heap.size w w'):Four w' b c0 c1 c2 c3:=by
  obtain ⟨h0,h1,h2,h3,h4⟩:=h;have key:∀(k:Nat) (u:Value),w.cell? ⟨b,k,none⟩=some u→w'.cell? ⟨b,k,none⟩=some u:=fun k u hu=>(hb.cell (p:=⟨b,k,none⟩) h0).trans hu;exact ⟨Nat.lt_of_lt_of_le h0 hb.size,key _ _ h1,key _ _ h2,key _ _ h3,key _ _ h4⟩
theorem Four.at_ {w w':World} {b B:Nat} {c0 c1 c2 c3:Value} (h:Four w b c0 c1 c2 c3) (hb:Below B w w') (hlt:b<B):Four w' b c0 c1 c2 c3:=by
  obtain ⟨h0,h1,h2,h3,h4⟩:=h;have key:∀k:Nat,w'.cell? ⟨b,k,none⟩=w.cell? ⟨b,k,none⟩:=fun k=>hb.cell (p:=⟨b,k,none⟩) hlt;exact ⟨Nat.lt_of_lt_of_le h0 hb.size,(key _).trans h1,(key _).trans h2,(key _).trans h3,(key _).trans h4⟩
theorem Four.far {w w':World} {b:Nat} {c0 c1 c2 c3 v v':Value} (h:Four w b c0 c1 c2 c3) (hf:Far w w' v v') (hne:v.ownBlock≠some b):Four w' b c0 c1 c2 c3:=by
  obtain ⟨h0,h1,h2,h3,h4⟩:=h;have hb:=(hf.2 b h0 hne).1;have key:∀k:Nat,w'.cell? ⟨b,k,none⟩=w.cell? ⟨b,k,none⟩:=fun k=>World.cell?_of_block (w:=w) (a:=⟨b,k,none⟩) hb;exact ⟨Nat.lt_of_lt_of_le h0 hf.1,(key _).trans h1,(key _).trans h2,(key _).trans h3,(key _).trans h4⟩
def FreeF (w:World) (b:Nat):Prop:=w.frozen? ⟨b,0,none⟩=false∧w.frozen? ⟨b,1,none⟩=false∧w.frozen? ⟨b,2,none⟩=false∧w.frozen? ⟨b,3,none⟩=false
theorem freeF_new (w:World) (c0 c1 c2 c3:Value) (T:TypeId):FreeF (w.alloc (.cells #[c0,c1,c2,c3] T)) w.heap.size:=by
  refine ⟨?_,?_,?_,?_⟩<;>(rw[World.frozen?_alloc_mark];simp)
theorem FreeF.at_ {w w':World} {b B:Nat} (h:FreeF w b) (hb:Below B w w') (hlt:b<B):FreeF w' b:=by
  have key:∀k:Nat,w'.frozen? ⟨b,k,none⟩=w.frozen? ⟨b,k,none⟩:=fun k=>hb.frozen (p:=⟨b,k,none⟩) hlt;exact ⟨(key 0).trans h.1,(key 1).trans h.2.1,(key 2).trans h.2.2.1,(key 3).trans h.2.2.2⟩
theorem je9 {c:UInt8} {n:Nat} (hn:n<256):((c.toNat:Int)==(n:Int))=decide (c=UInt8.ofNat n):=by
  by_cases h:c=UInt8.ofNat n
  · subst h;rw[decide_eq_true rfl,beq_iff_eq];simp;omega
  · rw[decide_eq_false h,beq_eq_false_iff_ne];intro e;apply h;(have e:c.toNat=n:=by omega);rw[←e];simp
theorem jgc (c:UInt8):c.toNat<256:=c.toNat_lt
end
section
inductive Nd where
  | mk (kind:Int) (text:List UInt8) (at_ en:Int) (kids:List Nd)
def Nd.kind:Nd→Int | .mk k _ _ _ _=>k
def Nd.text:Nd→List UInt8 | .mk _ x _ _ _=>x
def Nd.at_:Nd→Int | .mk _ _ a _ _=>a
def Nd.en:Nd→Int | .mk _ _ _ e _=>e
def Nd.kids:Nd→List Nd | .mk _ _ _ _ l=>l
def je8:Nd:=.mk 0 [] 0 0 []
def jdo (l:List Nd):Nd:=.mk 0 [] 0 0 l
def jen (n l:Nd):Nd:=jdo (n :: l.kids)
def jbm (l:List Nd) (a:Int):Nd:=.mk 24 [] (match l with | []=>a | n :: _=>n.at_) (match l.getLast? with | none=>a | some n=>n.en) l
structure Ps where
  i:Nat
  bad:Option Int
inductive NT where
  | imports | decls | decl | classD | ifaceD | members (cls:Bool) | funcD (blk:Bool) | params (first:Bool) | varD | types | block | stmts | stmt | cond
  | expr (lvl:Nat) | binRest (lvl:Nat) (n:Nd) | unary | postRest (n:Nd) | args | argsL (first:Bool) | primary
abbrev jft:List UInt8:=[105,109,112,111,114,116]
abbrev jeo:List UInt8:=[99,108,97,115,115]
abbrev jey:List UInt8:=[105,110,116,101,114,102,97,99,101]
abbrev jmr:List UInt8:=[101,120,116,101,110,100,115]
abbrev jis:List UInt8:=[105,109,112,108,101,109,101,110,116,115]
abbrev jed:List UInt8:=[102,117,110,99]
abbrev jji:List UInt8:=[118,97,114]
abbrev jdy:List UInt8:=[114,101,116,117,114,110]
abbrev xIf:List UInt8:=[105,102]
abbrev jlc:List UInt8:=[101,108,115,101]
abbrev jgx:List UInt8:=[119,104,105,108,101]
abbrev xNew:List UInt8:=[110,101,119]
def jdu (t:List UInt8):Bool:=t==[116,114,117,101]||t==[102,97,108,115,101]||t==[110,117,108,108]||t==[116,104,105,115]
def jkl (lvl:Nat):List (List UInt8) :=
  if lvl=0 then [[124,124]] else if lvl=1 then [[38,38]] else if lvl=2 then [[61,61],[33,61]] else if lvl=3 then [[60],[62]] else if lvl=4 then [[43],[45]] else [[42],[47],[37]]
section
variable (T:List Tk) (len:Int)
def jbi (s:Ps):Int:=if s.bad.isSome then 0 else match T[s.i]? with | none=>0 | some t=>t.kind
def txtP (s:Ps):List UInt8:=match T[s.i]? with | none=>[] | some t=>t.text
def isP (k:Int) (x:List UInt8) (s:Ps):Bool:=jbi T s==k&&txtP T s==x
def jaq (s:Ps):Int:=match T[s.i]? with | none=>len | some t=>t.at_
def jao (s:Ps):Int:=if s.i=0 then 0 else match T[s.i - 1]? with | none=>0 | some t=>t.en
def jbb (s:Ps):Ps:=⟨s.i+1,s.bad⟩
def jgg (s:Ps):Ps:=if s.bad.isSome then s else ⟨s.i,some (jaq T len s)⟩
def jab (k:Int) (x:List UInt8) (s:Ps):Ps:=if isP T k x s then jbb s else jgg T len s
def jai (k:Int) (s:Ps):List UInt8 × Ps:=if jbi T s=k then (txtP T s,jbb s) else ([],jgg T len s)
def je3 (k:Int) (x:List UInt8) (a:Int) (kids:List Nd) (s:Ps):Nd:=.mk k x a (jao T s) kids
def jco (whole:Bool) (s:Ps):Nd × Ps :=
  let r:=jai T len (jbi T s) s
  let s2:=if whole then jab T len 5 [59] r.2 else r.2
  (je3 T (if jbi T s=7 then 26 else 25) r.1 (jaq T len s) [] s2,s2)
def jes (s:Ps):List UInt8 × Ps :=
  let r:=jai T len 1 s
  if isP T 5 [46] r.2 then
    let q:=jai T len 1 (jbb r.2)
    (r.1++46 :: q.1,q.2)
  else r
def jel (s:Ps):Nd × Ps :=
  if jbi T s=6 then jco T len false s
  else
    let r:=jes T len s
    (je3 T 8 r.1 (jaq T len s) [] r.2,r.2)
def jdm (s:Ps):Nd × Ps :=
  if jbi T s=7 then jco T len false s
  else
    let r:=jai T len 1 s
    let t:=jel T len (jab T len 5 [58] r.2)
    (je3 T 7 r.1 (jaq T len s) [t.1] t.2,t.2)
def opP (lvl:Nat) (s:Ps):List UInt8:=(jkl lvl).foldl (fun o x=>if isP T 5 x s then x else o) []
abbrev Got:=Option (Nd × Ps)
def thenP (o:Got) (k:Nd→Ps→Got):Got:=match o with | none=>none | some r=>k r.1 r.2
theorem ja2 {o:Got} {k:Nd→Ps→Got} {r:Nd × Ps}:thenP o k=some r↔∃n s,o=some (n,s)∧k n s=some r:=by
  unfold thenP
  cases o with
  | none=>simp
  | some x =>
    obtain ⟨n,s⟩:=x;constructor
    · intro h;exact ⟨n,s,rfl,h⟩
    · rintro ⟨n',s',h,h'⟩;cases h;exact h'
variable (rec:NT→Ps→Got)
def jfi (s:Ps):Got :=
  if isP T 2 jft s then
    let r:=jai T len 1 (jbb s)
    let s2:=jab T len 5 [59] r.2
    thenP (rec .imports s2) fun l s3=>some (jen (je3 T 2 r.1 (jaq T len s) [] s2) l,s3)
  else some (je8,s)
def jip (s:Ps):Got :=
  if s.bad.isSome∨T.length≤s.i then some (je8,s)
  else thenP (rec .decl s) fun n s1=>thenP (rec .decls s1) fun l s2=>some (jen n l,s2)
def jl8 (s:Ps):Got :=
  if isP T 2 jeo s then rec .classD s
  else if isP T 2 jey s then rec .ifaceD s
  else if isP T 2 jed s then rec (.funcD true) s
  else rec .varD s
def jjl (k:Int) (x:List UInt8) (a:Int) (kids:List Nd) (cls:Bool) (s:Ps):Got :=
  thenP (rec (.members cls) s) fun l s1 =>
    let s2:=jab T len 5 [125] s1
    some (je3 T k x a (kids++[jbm l.kids (jao T s)]) s2,s2)
def jjg (s:Ps):Got :=
  let r:=jai T len 1 (jab T len 2 jeo s)
  let e:=if isP T 2 jmr r.2 then
      let t:=jel T len (jbb r.2)
      ([t.1],t.2)
    else ([],r.2)
  thenP (if isP T 2 jis e.2 then rec .types (jbb e.2) else some (je8,e.2)) fun b s4 =>
    jjl T len rec 3 r.1 (jaq T len s) [jbm e.1 (jao T r.2),jbm b.kids (jao T e.2)] true (jab T len 5 [123] s4)
def jjf (s:Ps):Got :=
  let r:=jai T len 1 (jab T len 2 jey s)
  thenP (if isP T 2 jmr r.2 then rec .types (jbb r.2) else some (je8,r.2)) fun b s4 =>
    jjl T len rec 4 r.1 (jaq T len s) [jbm b.kids (jao T r.2)] false (jab T len 5 [123] s4)
def jev (cls:Bool) (s:Ps):Got :=
  if s.bad.isSome∨isP T 5 [125] s then some (je8,s)
  else if jbi T s=6∨jbi T s=7 then
    let r:=jco T len true s
    thenP (rec (.members cls) r.2) fun l s2=>some (jen r.1 l,s2)
  else if isP T 2 jed s then thenP (rec (.funcD cls) s) fun n s1=>thenP (rec (.members cls) s1) fun l s2=>some (jen n l,s2)
  else if cls then thenP (rec .varD s) fun n s1=>thenP (rec (.members cls) s1) fun l s2=>some (jen n l,s2)
  else rec (.members cls) (jgg T len s)
def jl6 (blk:Bool) (s:Ps):Got :=
  let r:=jai T len 1 (jab T len 2 jed s)
  let s3:=jab T len 5 [40] r.2
  thenP (rec (.params true) s3) fun a s4 =>
    let s5:=jab T len 5 [41] s4
    let e:=if isP T 5 [58] s5 then
        let t:=jel T len (jbb s5)
        ([t.1],t.2)
      else ([],s5)
    thenP (if blk then thenP (rec .block e.2) fun c s7=>some (jdo [c],s7) else some (je8,jab T len 5 [59] e.2)) fun c s7 =>
      some (je3 T 5 r.1 (jaq T len s) [jbm a.kids (jao T s3),jbm e.1 (jao T s5),jbm c.kids (jao T e.2)] s7,s7)
def jfl (first:Bool) (s:Ps):Got :=
  if s.bad.isSome∨isP T 5 [41] s then some (je8,s)
  else
    let r:=jdm T len (if first then s else jab T len 5 [44] s)
    thenP (rec (.params false) r.2) fun l s2=>some (jen r.1 l,s2)
def bVar (s:Ps):Got :=
  let r:=jai T len 1 (jab T len 2 jji s)
  let t:=jel T len (jab T len 5 [58] r.2)
  thenP (if isP T 5 [61] t.2 then thenP (rec (.expr 0) (jbb t.2)) fun n s5=>some (jdo [n],s5) else some (je8,t.2)) fun l s5 =>
    let s6:=jab T len 5 [59] s5
    some (je3 T 6 r.1 (jaq T len s) [t.1,jbm l.kids (jao T t.2)] s6,s6)
def jh8 (s:Ps):Got :=
  let r:=if jbi T s=7 then jco T len false s else jel T len s
  if isP T 5 [44] r.2 then thenP (rec .types (jbb r.2)) fun l s2=>some (jen r.1 l,s2)
  else some (jdo [r.1],r.2)
def jjh (s:Ps):Got :=
  thenP (rec .stmts (jab T len 5 [123] s)) fun l s2 =>
    let s3:=jab T len 5 [125] s2
    some (je3 T 9 [] (jaq T len s) l.kids s3,s3)
def jio (s:Ps):Got :=
  if s.bad.isSome∨isP T 5 [125] s then some (je8,s)
  else thenP (rec .stmt s) fun n s1=>thenP (rec .stmts s1) fun l s2=>some (jen n l,s2)
def jiw (s:Ps):Bool:=match T[s.i+1]? with | none=>false | some t=>t.kind==5&&t.text==[59]
def jhq (s:Ps):Got :=
  if jbi T s=7∨(jbi T s=6∧jiw T s) then some (jco T len true s)
  else if isP T 2 jji s then rec .varD s
  else if isP T 5 [123] s then rec .block s
  else if isP T 2 jdy s then
    thenP (if isP T 5 [59] (jbb s) then some (je8,jbb s) else thenP (rec (.expr 0) (jbb s)) fun n s2=>some (jdo [n],s2)) fun l s2 =>
      let s3:=jab T len 5 [59] s2
      some (je3 T 10 [] (jaq T len s) l.kids s3,s3)
  else if isP T 2 xIf s then
    thenP (rec .cond (jbb s)) fun c s2=>thenP (rec .block s2) fun a s3 =>
      thenP (if isP T 2 jlc s3 then thenP (rec .block (jbb s3)) fun b s5=>some (jdo [b],s5) else some (je8,s3)) fun b s5 =>
        some (je3 T 11 [] (jaq T len s) [c,a,jbm b.kids (jao T s3)] s5,s5)
  else if isP T 2 jgx s then
    thenP (rec .cond (jbb s)) fun c s2=>thenP (rec .block s2) fun a s3=>some (je3 T 12 [] (jaq T len s) [c,a] s3,s3)
  else thenP (rec (.expr 0) s) fun a s1 =>
    if isP T 5 [61] s1 then
      thenP (rec (.expr 0) (jbb s1)) fun b s3 =>
        let s4:=jab T len 5 [59] s3
        some (je3 T 13 [] (jaq T len s) [a,b] s4,s4)
    else
      let s2:=jab T len 5 [59] s1
      some (je3 T 14 [] (jaq T len s) [a] s2,s2)
def jn5 (s:Ps):Got:=thenP (rec (.expr 0) (jab T len 5 [40] s)) fun n s2=>some (n,jab T len 5 [41] s2)
def jl7 (lvl:Nat) (s:Ps):Got:=if 6≤lvl then rec .unary s else thenP (rec (.expr (lvl+1)) s) fun n s1=>rec (.binRest lvl n) s1
def bBin (lvl:Nat) (n:Nd) (s:Ps):Got :=
  if s.bad.isSome∨opP T lvl s=[] then some (n,s)
  else thenP (rec (.expr (lvl+1)) (jbb s)) fun b s2=>rec (.binRest lvl (je3 T 23 (opP T lvl s) n.at_ [n,b] s2)) s2
def jhp (s:Ps):Got :=
  if isP T 5 [33] s∨isP T 5 [45] s then
    thenP (rec .unary (jai T len 5 s).2) fun a s2=>some (je3 T 22 (jai T len 5 s).1 (jaq T len s) [a] s2,s2)
  else thenP (rec .primary s) fun n s1=>rec (.postRest n) s1
def jkb (n:Nd) (s:Ps):Got :=
  if s.bad.isSome then some (n,s)
  else if isP T 5 [46] s then
    let r:=jai T len 1 (jbb s)
    rec (.postRest (je3 T 19 r.1 n.at_ [n] r.2)) r.2
  else if isP T 5 [40] s then thenP (rec .args (jbb s)) fun a s2=>rec (.postRest (je3 T 20 [] n.at_ (n :: a.kids) s2)) s2
  else some (n,s)
def jn6 (s:Ps):Got:=thenP (rec (.argsL true) s) fun l s1=>some (l,jab T len 5 [41] s1)
def jh9 (first:Bool) (s:Ps):Got :=
  if s.bad.isSome∨isP T 5 [41] s then some (je8,s)
  else
    let s1:=if first then s else jab T len 5 [44] s
    thenP (if jbi T s1=7 then some (jco T len false s1) else rec (.expr 0) s1) fun n s2 =>
      thenP (rec (.argsL false) s2) fun l s3=>some (jen n l,s3)
def jdv (s:Ps):Got :=
  let a:=jaq T len s
  if jbi T s=1 then some (je3 T 15 (jai T len 1 s).1 a [] (jai T len 1 s).2,(jai T len 1 s).2)
  else if jbi T s=3 then some (je3 T 16 (jai T len 3 s).1 a [] (jai T len 3 s).2,(jai T len 3 s).2)
  else if jbi T s=4 then some (je3 T 17 (jai T len 4 s).1 a [] (jai T len 4 s).2,(jai T len 4 s).2)
  else if jbi T s=6 then some (jco T len false s)
  else if isP T 2 xNew s then
    let r:=jes T len (jbb s)
    thenP (rec .args (jab T len 5 [40] r.2)) fun l s4=>some (je3 T 21 r.1 a l.kids s4,s4)
  else if jbi T s=2∧jdu (txtP T s) then some (je3 T 18 (jai T len 2 s).1 a [] (jai T len 2 s).2,(jai T len 2 s).2)
  else
    let s1:=jab T len 5 [40] s
    if s1.bad.isSome then some (je8,s1)
    else thenP (rec (.expr 0) s1) fun n s2 =>
      let s3:=jab T len 5 [41] s2
      some (.mk n.kind n.text a (jao T s3) n.kids,s3)
def jbo (nt:NT) (s:Ps):Got :=
  match nt with
  | .imports=>jfi T len rec s
  | .decls=>jip T rec s
  | .decl=>jl8 T rec s
  | .classD=>jjg T len rec s
  | .ifaceD=>jjf T len rec s
  | .members cls=>jev T len rec cls s
  | .funcD blk=>jl6 T len rec blk s
  | .params first=>jfl T len rec first s
  | .varD=>bVar T len rec s
  | .types=>jh8 T len rec s
  | .block=>jjh T len rec s
  | .stmts=>jio T rec s
  | .stmt=>jhq T len rec s
  | .cond=>jn5 T len rec s
  | .expr lvl=>jl7 rec lvl s
  | .binRest lvl n=>bBin T rec lvl n s
  | .unary=>jhp T len rec s
  | .postRest n=>jkb T len rec n s
  | .args=>jn6 T len rec s
  | .argsL first=>jh9 T len rec first s
  | .primary=>jdv T len rec s
end
def jaw (T:List Tk) (len:Int):Nat→NT→Ps→Got
  | 0,_,_=>none
  | f+1,nt,s=>jbo T len (jaw T len f) nt s
end
section
open Go.RowKit
open Go.ChangeShapes (block_add)
def VsS (W:World) (ok:Nat→Prop) (B:Option Addr) (m d:Nat) (vs:List Value):Prop :=
  m≤d∧d≤9223372036854775807∧vs.length=m∧∀i v,vs[i]?=some v→∃g o c0 c1 c2 c3 c4,B=some ⟨g,o,none⟩∧ok g∧v=.agg #[c0,c1,c2,c3,c4] ∧
    W.cell? ⟨g,o+i*5,none⟩=some c0∧W.cell? ⟨g,o+i*5+1,none⟩=some c1∧W.cell? ⟨g,o+i*5+2,none⟩=some c2∧W.cell? ⟨g,o+i*5+3,none⟩=some c3∧W.cell? ⟨g,o+i*5+4,none⟩=some c4
inductive NdV (W:World) (ok:Nat→Prop):Value→Nd→Prop
  | mk (k a e:Int) (x:List UInt8) (B:Option Addr) (m d:Nat) (vs:List Value) (l:List Nd) (hvs:VsS W ok B m d vs) (hlen:l.length=m)
      (hr:∀(i:Nat) (v:Value) (y:Nd),vs[i]?=some v→l[i]?=some y→NdV W ok v y):NdV W ok (.agg #[.int .i64 k,.string (bs x),.int .i64 a,.int .i64 e,.slice B m d]) (.mk k x a e l)
section
variable {W W':World} {ok ok':Nat→Prop}
theorem VsS.map {B:Option Addr} {m d:Nat} {vs:List Value} (h:VsS W ok B m d vs) (hc:∀(p:Addr),ok p.block→p.block<W.heap.size→W'.cell? p=W.cell? p) (ho:∀g,ok g→g<W.heap.size→ok' g):VsS W' ok' B m d vs:=by
  refine ⟨h.1,h.2.1,h.2.2.1,fun i v hv=>?_⟩;obtain ⟨g,o,c0,c1,c2,c3,c4,hB,hg,e,h0,h1,h2,h3,h4⟩:=h.2.2.2 i v hv;have hlt:g<W.heap.size:=World.block_lt_of_cell? _ _ h0;exact ⟨g,o,c0,c1,c2,c3,c4,hB,ho g hg hlt,e,(hc ⟨g,_,none⟩ hg hlt).trans h0,(hc ⟨g,_,none⟩ hg hlt).trans h1,(hc ⟨g,_,none⟩ hg hlt).trans h2,(hc ⟨g,_,none⟩ hg hlt).trans h3,(hc ⟨g,_,none⟩ hg hlt).trans h4⟩
theorem NdV.map {v:Value} {r:Nd} (h:NdV W ok v r) (hc:∀(p:Addr),ok p.block→p.block<W.heap.size→W'.cell? p=W.cell? p) (ho:∀g,ok g→g<W.heap.size→ok' g):NdV W' ok' v r:=by
  induction h with
  | mk k a e x B m d vs l hvs hlen hr ih=>exact .mk k a e x B m d vs l (hvs.map hc ho) hlen ih
theorem VsS.below {B:Option Addr} {m d:Nat} {vs:List Value} (h:VsS W ok B m d vs) (hb:Below W.heap.size W W'):VsS W' ok B m d vs:=h.map (fun _ _ hp=>hb.cell hp) fun _ h _=>h
theorem NdV.kept {v:Value} {r:Nd} (h:NdV W ok v r) (hb:Below W.heap.size W W'):NdV W' ok v r:=h.map (fun _ _ hp=>hb.cell hp) fun _ h _=>h
theorem NdV.any {v:Value} {r:Nd} (h:NdV W ok v r):NdV W (fun _=>True) v r:=h.map (fun _ _ _=>rfl) fun _ _ _=>trivial
theorem VsS.nil (W:World) (ok:Nat→Prop):VsS W ok none 0 0 []:=⟨Nat.le_refl _,by omega,rfl,fun i r h=>by simp at h⟩
theorem jc1 (k a e:Int) (x:List UInt8):NdV W ok (.agg #[.int .i64 k,.string (bs x),.int .i64 a,.int .i64 e,.slice none 0 0]) (.mk k x a e []) :=
  .mk k a e x none 0 0 [] [] (VsS.nil W ok) rfl fun i v y hv=>by simp at hv
theorem NdV.agg {v:Value} {r:Nd} (h:NdV W ok v r):∃c0 c1 c2 c3 c4,v=.agg #[c0,c1,c2,c3,c4]∧c0.oneCell'=true∧c1.oneCell'=true∧c2.oneCell'=true∧c3.oneCell'=true∧c4.oneCell'=true:=by
  cases h;exact ⟨_,_,_,_,_,rfl,rfl,rfl,rfl,rfl,rfl⟩
theorem VsS.at_ {B:Option Addr} {m d:Nat} {vs:List Value} (h:VsS W ok B m d vs) {i:Nat} (hi:i<m) :
    ∃g o c0 c1 c2 c3 c4,B=some ⟨g,o,none⟩∧vs[i]?=some (.agg #[c0,c1,c2,c3,c4]) ∧
    W.cell? ⟨g,o+i*5,none⟩=some c0∧W.cell? ⟨g,o+i*5+1,none⟩=some c1∧W.cell? ⟨g,o+i*5+2,none⟩=some c2∧W.cell? ⟨g,o+i*5+3,none⟩=some c3∧W.cell? ⟨g,o+i*5+4,none⟩=some c4:=by
  (have hl:i<vs.length:=by rw[h.2.2.1];exact hi);obtain ⟨g,o,c0,c1,c2,c3,c4,hB,_,e,h0⟩:=h.2.2.2 i _ (List.getElem?_eq_getElem hl);exact ⟨g,o,c0,c1,c2,c3,c4,hB,by rw[List.getElem?_eq_getElem hl,e],h0⟩
end
def OwnQ (W:World) (B:Nat) (q:Nat→Prop) (v:Value) (xs:List Nd):Prop :=
  ∃cs vs:List Value,W.ownsRow B 25 5 v xs.length cs∧vs.length=xs.length ∧
    (∀(i:Nat) (u:Value),vs[i]?=some u→∃c0 c1 c2 c3 c4,u=.agg #[c0,c1,c2,c3,c4]∧cs[i*5]?=some c0∧cs[i*5+1]?=some c1∧cs[i*5+2]?=some c2∧cs[i*5+3]?=some c3∧cs[i*5+4]?=some c4) ∧
    ∀(i:Nat) (u:Value) (x:Nd),vs[i]?=some u→xs[i]?=some x→NdV W (fun g=>q g∧v.ownBlock≠some g) u x
def OwnN (W:World) (B:Nat) (v:Value) (xs:List Nd):Prop:=OwnQ W B (fun g=>B≤g) v xs
theorem OwnQ.nil (W:World) (B:Nat) (q:Nat→Prop):OwnQ W B q (.slice none 0 0) []:=⟨[],[],World.ownsRow_nil _ _ _ _,rfl,fun i u h=>by simp at h,fun i u x h=>by simp at h⟩
theorem OwnQ.below {W W':World} {B:Nat} {q:Nat→Prop} {v:Value} {xs:List Nd} (h:OwnQ W B q v xs) (hb:Below W.heap.size W W'):OwnQ W' B q v xs:=by
  obtain ⟨cs,vs,h1,h2,h3,h4⟩:=h;exact ⟨cs,vs,jhm h1 hb,h2,h3,fun i u x hu hx=>(h4 i u x hu hx).kept hb⟩
theorem OwnQ.s {W:World} {B:Nat} {q:Nat→Prop} {v:Value} {xs:List Nd} (h:OwnQ W B q v xs) (ok:Nat→Prop) (hq:∀g,q g→ok g) (hv:∀g,B≤g→v.ownBlock=some g→ok g) :
    ∃(A:Option Addr) (m d:Nat) (vs:List Value),v=.slice A m d∧m=xs.length∧VsS W ok A m d vs∧∀(i:Nat) (u:Value) (x:Nd),vs[i]?=some u→xs[i]?=some x→NdV W ok u x:=by
  obtain ⟨cs,vs,h1,h2,h3,h4⟩:=h;have h4':∀(i:Nat) (u:Value) (x:Nd),vs[i]?=some u→xs[i]?=some x→NdV W ok u x:=fun i u x hu hx=>(h4 i u x hu hx).map (fun _ _ _=>rfl) fun g hg _=>hq g hg.1;rcases h1.2 with ⟨rfl,h0⟩ | ⟨g,cap,cur,rfl,hb,hg,hc,hm,r⟩
  · obtain rfl:xs=[]:=List.eq_nil_of_length_eq_zero h0;obtain rfl:vs=[]:=List.eq_nil_of_length_eq_zero h2;exact ⟨none,0,0,[],rfl,rfl,VsS.nil _ _,h4'⟩
  · refine ⟨_,xs.length,cap,vs,rfl,rfl,⟨hc,by unfold maxLen at hm;omega,h2,fun i u hu=>?_⟩,h4'⟩;obtain ⟨c0,c1,c2,c3,c4,e,e0,e1,e2,e3,e4⟩:=h3 i u hu;have hi:=(List.getElem?_eq_some_iff.1 hu).1
    have key:∀j,j<5→W.cell? ⟨g,0+i*5+j,none⟩=cs[i*5+j]?:=fun j hj=>by
      rw[Nat.zero_add];exact h1.cellAt (i*5+j) (by omega)
    exact ⟨g,0,c0,c1,c2,c3,c4,rfl,hv g hb rfl,e,(key 0 (by omega)).trans e0,(key 1 (by omega)).trans e1,(key 2 (by omega)).trans e2,(key 3 (by omega)).trans e3,(key 4 (by omega)).trans e4⟩
theorem OwnQ.node {W:World} {B:Nat} {q:Nat→Prop} {v:Value} {xs:List Nd} (h:OwnQ W B q v xs) (ok:Nat→Prop) (hq:∀g,q g→ok g) (hv:∀g,B≤g→v.ownBlock=some g→ok g) (k a e:Int) (x:List UInt8) :
    NdV W ok (.agg #[.int .i64 k,.string (bs x),.int .i64 a,.int .i64 e,v]) (.mk k x a e xs):=by
  obtain ⟨A,m,d,vs,rfl,hm,hvs,hr⟩:=h.s ok hq hv;exact .mk k a e x A m d vs xs hvs hm.symm hr
theorem OwnN.nil (W:World) (B:Nat):OwnN W B (.slice none 0 0) []:=⟨[],[],World.ownsRow_nil _ _ _ _,rfl,fun i u h=>by simp at h,fun i u x h=>by simp at h⟩
theorem OwnN.below {W W':World} {B:Nat} {v:Value} {xs:List Nd} (h:OwnN W B v xs) (hb:Below W.heap.size W W'):OwnN W' B v xs:=by
  obtain ⟨cs,vs,h1,h2,h3,h4⟩:=h;exact ⟨cs,vs,jhm h1 hb,h2,h3,fun i u x hu hx=>(h4 i u x hu hx).kept hb⟩
theorem OwnN.mono {W:World} {B B':Nat} {v:Value} {xs:List Nd} (h:OwnN W B v xs) (hb:B'≤B):OwnN W B' v xs:=by
  obtain ⟨cs,vs,h1,h2,h3,h4⟩:=h;exact ⟨cs,vs,jk0 h1 hb,h2,h3,fun i u x hu hx=>(h4 i u x hu hx).map (fun _ _ _=>rfl) fun g hg _=>⟨Nat.le_trans hb hg.1,hg.2⟩⟩
theorem OwnN.s {W:World} {B:Nat} {v:Value} {xs:List Nd} (h:OwnN W B v xs):∃(A:Option Addr) (m d:Nat) (vs:List Value),v=.slice A m d∧m=xs.length∧VsS W (fun g=>B≤g) A m d vs∧∀(i:Nat) (u:Value) (x:Nd),vs[i]?=some u→xs[i]?=some x→NdV W (fun g=>B≤g) u x :=
  OwnQ.s h (fun g=>B≤g) (fun _ h=>h) fun _ h _=>h
theorem c1_five (w:World) (c0 c1 c2 c3 c4:Value) (T:TypeId):∀(j:Nat) (u:Value),[c0,c1,c2,c3,c4][j]?=some u→(w.alloc (.cells #[c0,c1,c2,c3,c4] T)).cell? ((⟨w.heap.size,0,none⟩:Addr).add j)=some u:=by
  intro j u h
  match j,h with
  | 0,h=>simp at h;subst h;rw[jmq,World.cell?_alloc_mark];try rfl
  | 1,h=>simp at h;subst h;rw[jmq,World.cell?_alloc_mark];try rfl
  | 2,h=>simp at h;subst h;rw[jmq,World.cell?_alloc_mark];try rfl
  | 3,h=>simp at h;subst h;rw[jmq,World.cell?_alloc_mark];try rfl
  | 4,h=>simp at h;subst h;rw[jmq,World.cell?_alloc_mark];try rfl
section
variable {P:Program} {ops:Array Oper} {rest:List Oper} {o:Oper} {a:Act} {Q:Exit→Act→World→Prop}
theorem je7 (hgd:o.guard=none) (s x:Operand) (t:TypeId) (ho:o.op=.call { callee:=.builtin .append,args:=#[s,x],argTypes:=#[t,t] })
    (i:TypeInfo) (z:Value) (bytes:Nat) (ht:P.underlying t=some (.slice 25)) (hi:P.info? 25=some i) (hz:i.zero=some z) (hsize:i.size=5) (hby:i.bytes=bytes) (hzs:z.cells.size=5)
    (B:Nat) (q:Nat→Prop) (v:Value) (xs:List Nd) (hs:a.eval s=v) (w0:World) (c0 c1 c2 c3 c4:Value) (r:Nd) (hown:OwnQ w0 B q v xs) (hB:B≤w0.heap.size) (H:Nat) (hH:H=w0.heap.size)
    (hx:a.eval x=.slice (some ⟨H,0,none⟩) 1 1) (hr:NdV w0 (fun g=>q g∧v.ownBlock≠some g) (.agg #[c0,c1,c2,c3,c4]) r) (hlen:(xs.length+1)*bytes≤140737488355328) (h63:xs.length+1≤maxLen)
    (h:∀v' w',OwnQ w' B q v' (xs++[r])→Below B w0 w'→Far w0 w' v v'→wpList P ops Q rest (a.put o.dst v') w'):wpList P ops Q (o :: rest) a (w0.alloc (.cells #[c0,c1,c2,c3,c4] 25)):=by
  subst hH;obtain ⟨cs,vs,hown,hvl,h3,h4⟩:=hown
  have hone:∀u∈[c0,c1,c2,c3,c4],u.oneCell'=true:=by
    obtain ⟨d0,d1,d2,d3,d4,e,h0,h1,h2,h3',h4'⟩:=hr.agg;injection e with e;injection e with e;simp only[List.cons.injEq,and_true] at e;obtain ⟨rfl,rfl,rfl,rfl,rfl⟩:=e;intro u hu;simp only[List.mem_cons,List.not_mem_nil,or_false] at hu;rcases hu with rfl | rfl | rfl | rfl | rfl<;>assumption
  refine wpList_append_own_at _ hgd s x t ho B 25 i z 5 bytes ht hi hz hsize hby hzs (by decide) v xs.length cs hs (hown.alloc _) ⟨w0.heap.size,0,none⟩ 1 1 [c0,c1,c2,c3,c4] hx rfl (c1_five _ _ _ _ _ _ _) hone h63 hlen (by simp;omega) ?_;intro v' w' hown' hg _ hat
  have hF:Far w0 w' v v':=by
    refine ⟨by have:=hg.size;simp at this;omega,fun g hlt hne=>⟨?_,?_⟩⟩
    · exact (hg.block g (by simp;omega) (fun e=>hne e.symm)).trans (((Below.refl w0.heap.size w0).alloc (Nat.le_refl _) _).block g hlt)
    · rcases hat with hat | hat
      · rw[hat];exact hne
      · rw[hat];intro e;injection e with e;simp at e;omega
  have hmap:∀(u:Value) (y:Nd),NdV w0 (fun g=>q g∧v.ownBlock≠some g) u y→NdV w' (fun g=>q g∧v'.ownBlock≠some g) u y:=fun u y hy =>
    hy.map (fun p hp hlt=>World.cell?_of_block (hF.2 p.block hlt hp.2).1) fun g hg hlt=>⟨hg.1,(hF.2 g hlt hg.2).2⟩
  have hcl:cs.length=xs.length*5:=hown.1;refine h v' w' ⟨cs++[c0,c1,c2,c3,c4],vs++[.agg #[c0,c1,c2,c3,c4]],by rw[List.length_append];exact hown',by simp[hvl],fun j u hu=>?_,fun j u y hu hy=>?_⟩ ?_ ?_
  · by_cases hj:j<vs.length
    · rw[List.getElem?_append_left hj] at hu;obtain ⟨d0,d1,d2,d3,d4,e,e0,e1,e2,e3,e4⟩:=h3 j u hu
      have key:∀(z:Nat) (d:Value),z<5→cs[j*5+z]?=some d→(cs++[c0,c1,c2,c3,c4])[j*5+z]?=some d:=fun z d hq hd=>by
        rw[List.getElem?_append_left (by omega)];exact hd
      exact ⟨d0,d1,d2,d3,d4,e,key 0 _ (by omega) e0,key 1 _ (by omega) e1,key 2 _ (by omega) e2,key 3 _ (by omega) e3,key 4 _ (by omega) e4⟩
    · rw[List.getElem?_append_right (by omega)] at hu
      have hj':j=vs.length:=by
        have:=(List.getElem?_eq_some_iff.1 hu).1;simp at this;omega
      subst hj';rw[Nat.sub_self] at hu;cases hu
      have key:∀z,z<5→(cs++[c0,c1,c2,c3,c4])[vs.length*5+z]?=[c0,c1,c2,c3,c4][z]?:=fun z hq=>by
        rw[List.getElem?_append_right (by omega),show vs.length*5+z - cs.length=z by omega]
      exact ⟨c0,c1,c2,c3,c4,rfl,key 0 (by omega),key 1 (by omega),key 2 (by omega),key 3 (by omega),key 4 (by omega)⟩
  · by_cases hj:j<vs.length
    · rw[List.getElem?_append_left hj] at hu;rw[List.getElem?_append_left (by omega)] at hy;exact hmap u y (h4 j u y hu hy)
    · rw[List.getElem?_append_right (by omega)] at hu hy
      have hj':j=vs.length:=by
        have:=(List.getElem?_eq_some_iff.1 hu).1;simp at this;omega
      subst hj';rw[Nat.sub_self] at hu;rw[hvl,Nat.sub_self] at hy;cases hu;cases hy;exact hmap _ _ hr
  · exact ((Below.refl B w0).alloc hB _).grown hg (by simp;omega) fun k hk=>(hown.lt k hk).1
  · exact hF
theorem jc5 (hgd:o.guard=none) (s x:Operand) (t:TypeId) (ho:o.op=.call { callee:=.builtin .append,args:=#[s,x],argTypes:=#[t,t] })
    (i:TypeInfo) (z:Value) (bytes:Nat) (ht:P.underlying t=some (.slice 25)) (hi:P.info? 25=some i) (hz:i.zero=some z) (hsize:i.size=5) (hby:i.bytes=bytes) (hzs:z.cells.size=5)
    (B:Nat) (v:Value) (xs:List Nd) (hs:a.eval s=v) (w0:World) (c0 c1 c2 c3 c4:Value) (r:Nd) (hown:OwnN w0 B v xs) (hB:B≤w0.heap.size) (H:Nat) (hH:H=w0.heap.size)
    (hx:a.eval x=.slice (some ⟨H,0,none⟩) 1 1) (hr:NdV w0 (fun g=>B≤g∧v.ownBlock≠some g) (.agg #[c0,c1,c2,c3,c4]) r) (hlen:(xs.length+1)*bytes≤140737488355328) (h63:xs.length+1≤maxLen)
    (h:∀v' w',OwnN w' B v' (xs++[r])→Below B w0 w'→Far w0 w' v v'→wpList P ops Q rest (a.put o.dst v') w'):wpList P ops Q (o :: rest) a (w0.alloc (.cells #[c0,c1,c2,c3,c4] 25)) :=
  je7 hgd s x t ho i z bytes ht hi hz hsize hby hzs B (fun g=>B≤g) v xs hs w0 c0 c1 c2 c3 c4 r hown hB H hH hx hr hlen h63 h
theorem jf4 (hgd:o.guard=none) (s x:Operand) (t:TypeId) (ho:o.op=.call { callee:=.builtin .append,args:=#[s,x],argTypes:=#[t,t] })
    (i:TypeInfo) (z:Value) (bytes:Nat) (ht:P.underlying t=some (.slice 25)) (hi:P.info? 25=some i) (hz:i.zero=some z) (hsize:i.size=5) (hby:i.bytes=bytes) (hzs:z.cells.size=5) (hb6:bytes≤1000)
    (B:Nat) (hs:a.eval s=.slice none 0 0) (w0:World) (c0 c1 c2 c3 c4:Value) (r:Nd) (hB:B≤w0.heap.size) (H:Nat) (hH:H=w0.heap.size)
    (hx:a.eval x=.slice (some ⟨H,0,none⟩) 1 1) (hr:NdV w0 (fun g=>B≤g) (.agg #[c0,c1,c2,c3,c4]) r)
    (h:∀v' w',OwnN w' B v' [r]→Below w0.heap.size w0 w'→wpList P ops Q rest (a.put o.dst v') w'):wpList P ops Q (o :: rest) a (w0.alloc (.cells #[c0,c1,c2,c3,c4] 25)) :=
  jc5 hgd s x t ho i z bytes ht hi hz hsize hby hzs B (.slice none 0 0) [] hs w0 c0 c1 c2 c3 c4 r (OwnN.nil _ _) hB H hH hx
    (hr.map (fun _ _ _=>rfl) fun g hg _=>⟨hg,by simp[Value.ownBlock]⟩) (by simp;omega) (by simp[maxLen]) fun v' w' ho hb hf=>h v' w' ho ⟨hb.os,hb.tape,hb.output,hf.1,fun k hk=>(hf.2 k hk (by simp[Value.ownBlock])).1⟩
end
end
section
open Go.RowKit
mutual
def sizeN:Nd→Nat
  | .mk _ _ _ _ l=>ja8 l+1
def ja8:List Nd→Nat
  | []=>0
  | n :: l=>sizeN n+ja8 l
end
theorem jlg (l r:List Nd):ja8 (l++r)=ja8 l+ja8 r:=by
  induction l with
  | nil=>simp[ja8]
  | cons n l ih=>rw[List.cons_append,ja8,ja8,ih];omega
theorem jdj {l:List Nd} {k:Nat} {n:Nd} (h:l[k]?=some n):ja8 (l.take (k+1))=ja8 (l.take k)+sizeN n∧ja8 (l.take k)+sizeN n≤ja8 l:=by
  obtain ⟨h1,e⟩:=List.getElem?_eq_some_iff.1 h;(have h2:l.take (k+1)=l.take k++[n]:=by rw[List.take_succ_eq_append_getElem h1,e]);(have h3:ja8 (l.take (k+1))=ja8 (l.take k)+sizeN n:=by rw[h2,jlg,ja8,ja8];omega);refine ⟨h3,?_⟩;rw[←h3]
  conv=>rhs;rw[←List.take_append_drop (k+1) l]
  rw[jlg];omega
def FiveN (w:World) (b:Nat) (c0 c1 c2 c3 c4:Value):Prop :=
  b<w.heap.size∧w.cell? ⟨b,0,none⟩=some c0∧w.cell? ⟨b,1,none⟩=some c1∧w.cell? ⟨b,2,none⟩=some c2∧w.cell? ⟨b,3,none⟩=some c3∧w.cell? ⟨b,4,none⟩=some c4
theorem ja6 (w:World) (c0 c1 c2 c3 c4:Value) (T:TypeId):FiveN (w.alloc (.cells #[c0,c1,c2,c3,c4] T)) w.heap.size c0 c1 c2 c3 c4:=by
  refine ⟨by simp,?_,?_,?_,?_,?_⟩<;>(rw[World.cell?_alloc_mark];rfl)
theorem FiveN.keep {w w':World} {b:Nat} {c0 c1 c2 c3 c4:Value} (h:FiveN w b c0 c1 c2 c3 c4) (hb:Below w.heap.size w w'):FiveN w' b c0 c1 c2 c3 c4:=by
  obtain ⟨h0,h1,h2,h3,h4,h5⟩:=h;have key:∀(k:Nat) (u:Value),w.cell? ⟨b,k,none⟩=some u→w'.cell? ⟨b,k,none⟩=some u:=fun k u hu=>(hb.cell (p:=⟨b,k,none⟩) h0).trans hu;exact ⟨Nat.lt_of_lt_of_le h0 hb.size,key _ _ h1,key _ _ h2,key _ _ h3,key _ _ h4,key _ _ h5⟩
end
end Go.Proofs.YtonoklmobocikaaGreatDoor
