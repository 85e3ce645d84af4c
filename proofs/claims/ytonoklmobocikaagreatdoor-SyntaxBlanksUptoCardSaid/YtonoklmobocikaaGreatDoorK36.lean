/- Lemmas. -/
import Derived.Test.YtonoklmobocikaaGreatDoorK32
set_option linter.unusedVariables false
set_option linter.unusedSimpArgs false
set_option maxRecDepth 20000
set_option maxHeartbeats 6400000
namespace Go.Proofs.YtonoklmobocikaaGreatDoor
section
theorem mk_sign (l:List UInt8):jim (36 :: l)=false:=by
  cases h:jim (36 :: l) with
  | false=>rfl
  | true=>exact absurd rfl (jnm _ (mem_mk h)).2.2.2.2.1
end
section
theorem err_sign (r:List UInt8):jgj false (36 :: r)=11:=by
  unfold jgj
  rw[jds (by decide) (by decide) (by decide) (by decide),if_neg (show ¬(2≤(36 :: r).length∧jim ((36 :: r).take 2)=true) from fun h=>by
    have h2:=h.2;rw[List.take_succ_cons,mk_sign] at h2
    cases h2)]
  show jcd 5 [36]=11;decide
def ktS (l:List Tk):List (Int × List UInt8):=l.map fun t=>(t.kind,t.text)
end
section
mutual
def jc8:Nd→Nd
  | .mk k x _ _ l=>.mk k x 0 0 (jd8 l)
def jd8:List Nd→List Nd
  | []=>[]
  | n :: l=>jc8 n :: jd8 l
end
theorem stripL_map (l:List Nd):jd8 l=l.map jc8:=by
  induction l with
  | nil=>rfl
  | cons n l ih=>rw[jd8,ih];rfl
theorem jhf {n m:Nd} (h:jc8 n=jc8 m):jd8 n.kids=jd8 m.kids:=by
  obtain ⟨k,x,a,e,l⟩:=n;obtain ⟨k',x',a',e',l'⟩:=m;unfold jc8 at h;injection h
theorem jit {n m:Nd} (h:jc8 n=jc8 m):n.kind=m.kind∧n.text=m.text:=by
  obtain ⟨k,x,a,e,l⟩:=n;obtain ⟨k',x',a',e',l'⟩:=m;unfold jc8 at h;injection h with h1 h2;exact ⟨h1,h2⟩
theorem jgu {k:Int} {x:List UInt8} {a e a' e':Int} {l l':List Nd} (h:jd8 l=jd8 l'):jc8 (.mk k x a e l)=jc8 (.mk k x a' e' l'):=by
  unfold jc8;rw[h]
theorem jf6 {n m:Nd} {l l':List Nd} (h:jc8 n=jc8 m) (h':jd8 l=jd8 l'):jd8 (n :: l)=jd8 (m :: l'):=by
  rw[jd8,jd8,h,h']
theorem stripL_app {a b a' b':List Nd} (h:jd8 a=jd8 a') (h':jd8 b=jd8 b'):jd8 (a++b)=jd8 (a'++b'):=by
  rw[stripL_map,stripL_map] at *;rw[List.map_append,List.map_append,h,h']
section
variable (T T':List Tk) (a:Nat)
def SimT:Prop:=∀i,(T[i+a]?).map (fun t=>(t.kind,t.text))=(T'[i]?).map (fun t=>(t.kind,t.text))
def jg2 (s s':Ps):Prop:=s.i=s'.i+a∧s.bad.isSome=s'.bad.isSome
def SimO (o o':Got):Prop:=∀n s,o=some (n,s)→∃n' s',o'=some (n',s')∧jc8 n=jc8 n'∧jg2 a s s'
end
variable {T T':List Tk} {a:Nat} {len len':Int}
theorem SimO.some {n n':Nd} {s s':Ps} (h:jc8 n=jc8 n') (hs:jg2 a s s'):SimO a (some (n,s)) (some (n',s')):=by
  intro m r hr;injection hr with hr;injection hr with h1 h2;subst h1 h2;exact ⟨n',s',rfl,h,hs⟩
theorem SimO.pair {r r':Nd × Ps} (h:jc8 r.1=jc8 r'.1∧jg2 a r.2 r'.2):SimO a (Option.some r) (Option.some r'):=SimO.some h.1 h.2
theorem SimO.thenP {o o':Got} {k k':Nd→Ps→Got} (h:SimO a o o') (hk:∀n n' s s',jc8 n=jc8 n'→jg2 a s s'→SimO a (k n s) (k' n' s')):SimO a (thenP o k) (thenP o' k'):=by
  intro m r hr;obtain ⟨n,s,h1,h2⟩:=ja2.1 hr;obtain ⟨n',s',h3,h4,h5⟩:=h _ _ h1;obtain ⟨m',r',h6,h7,h8⟩:=hk n n' s s' h4 h5 _ _ h2;exact ⟨m',r',ja2.2 ⟨n',s',h3,h6⟩,h7,h8⟩
theorem SimO.ite {c c':Prop} [Decidable c] [Decidable c'] {x y x' y':Got} (hc:c↔c') (h:SimO a x x') (h':SimO a y y'):SimO a (if c then x else y) (if c' then x' else y'):=by
  by_cases hh:c
  · rw[if_pos hh,if_pos (hc.1 hh)];exact h
  · rw[if_neg hh,if_neg (fun k=>hh (hc.2 k))];exact h'
section
variable (hT:SimT T T' a)
include hT
theorem sim_get {s s':Ps} (h:jg2 a s s'):(T[s.i]?).map (fun t=>(t.kind,t.text))=(T'[s'.i]?).map (fun t=>(t.kind,t.text)):=by
  rw[h.1];exact hT _
theorem jiv {s s':Ps} (h:jg2 a s s'):jbi T s=jbi T' s':=by
  have hg:=sim_get hT h;unfold jbi;rw[h.2];cases h1:T[s.i]?<;>cases h2:T'[s'.i]?<;>rw[h1,h2] at hg<;>simp at hg
  · simp only[hg.1]
theorem sim_txt {s s':Ps} (h:jg2 a s s'):txtP T s=txtP T' s':=by
  have hg:=sim_get hT h;unfold txtP;cases h1:T[s.i]?<;>cases h2:T'[s'.i]?<;>rw[h1,h2] at hg<;>simp at hg
  · exact hg.2
theorem sim_is {k:Int} {x:List UInt8} {s s':Ps} (h:jg2 a s s'):isP T k x s=isP T' k x s':=by unfold isP;rw[jiv hT h,sim_txt hT h]
omit hT in
theorem jhv {s s':Ps} (h:jg2 a s s'):jg2 a (jbb s) (jbb s'):=⟨by unfold jbb;have:=h.1;show s.i+1=s'.i+1+a;omega,h.2⟩
omit hT in
theorem sim_fail {s s':Ps} (h:jg2 a s s'):jg2 a (jgg T len s) (jgg T' len' s'):=by
  unfold jgg;rw[h.2];split
  · exact h
  · exact ⟨h.1,rfl⟩
theorem jnb {k:Int} {x:List UInt8} {s s':Ps} (h:jg2 a s s'):jg2 a (jab T len k x s) (jab T' len' k x s'):=by
  unfold jab;rw[sim_is hT h];split
  · exact jhv h
  · exact sim_fail h
theorem jiu {k:Int} {s s':Ps} (h:jg2 a s s'):(jai T len k s).1=(jai T' len' k s').1∧jg2 a (jai T len k s).2 (jai T' len' k s').2:=by
  unfold jai;rw[jiv hT h,sim_txt hT h];split
  · exact ⟨rfl,jhv h⟩
  · exact ⟨rfl,sim_fail h⟩
theorem jkg {w:Bool} {s s':Ps} (h:jg2 a s s'):jc8 (jco T len w s).1=jc8 (jco T' len' w s').1∧jg2 a (jco T len w s).2 (jco T' len' w s').2:=by
  unfold jco;dsimp only;rw[jiv hT h];obtain ⟨h1,h2⟩:=jiu (len:=len) (len':=len') (k:=jbi T' s') hT h;refine ⟨?_,?_⟩
  · rw[h1];exact jgu rfl
  · cases w with
    | true=>exact jnb hT h2
    | false=>exact h2
theorem sim_name {s s':Ps} (h:jg2 a s s'):(jes T len s).1=(jes T' len' s').1∧jg2 a (jes T len s).2 (jes T' len' s').2:=by
  unfold jes;dsimp only;obtain ⟨h1,h2⟩:=jiu (len:=len) (len':=len') (k:=1) hT h;rw[sim_is hT h2];split
  · obtain ⟨h3,h4⟩:=jiu (len:=len) (len':=len') (k:=1) hT (jhv h2);exact ⟨by rw[h1,h3],h4⟩
  · exact ⟨h1,h2⟩
theorem sim_typ {s s':Ps} (h:jg2 a s s'):jc8 (jel T len s).1=jc8 (jel T' len' s').1∧jg2 a (jel T len s).2 (jel T' len' s').2:=by
  unfold jel;dsimp only;rw[jiv hT h];split
  · exact jkg hT h
  · obtain ⟨h1,h2⟩:=sim_name (len:=len) (len':=len') hT h;exact ⟨by rw[h1];exact jgu rfl,h2⟩
theorem sim_param {s s':Ps} (h:jg2 a s s'):jc8 (jdm T len s).1=jc8 (jdm T' len' s').1∧jg2 a (jdm T len s).2 (jdm T' len' s').2:=by
  unfold jdm;dsimp only;rw[jiv hT h];split
  · exact jkg hT h
  · obtain ⟨h1,h2⟩:=jiu (len:=len) (len':=len') (k:=1) hT h;obtain ⟨h3,h4⟩:=sim_typ (len:=len) (len':=len') hT (jnb (len:=len) (len':=len') (k:=5) (x:=[58]) hT h2);exact ⟨by rw[h1];exact jgu (jf6 h3 rfl),h4⟩
theorem sim_op {lvl:Nat} {s s':Ps} (h:jg2 a s s'):opP T lvl s=opP T' lvl s':=by
  unfold opP;congr 1;funext o x;rw[sim_is hT h]
theorem sim_semi {s s':Ps} (h:jg2 a s s'):jiw T s=jiw T' s':=by
  have hg:=hT (s'.i+1);unfold jiw;rw[show s.i+1=s'.i+1+a by have:=h.1;omega];cases h1:T[s'.i+1+a]?<;>cases h2:T'[s'.i+1]?<;>rw[h1,h2] at hg<;>simp at hg
  · simp only[hg.1,hg.2]
theorem sim_end {s s':Ps} (h:jg2 a s s'):T.length≤s.i↔T'.length≤s'.i:=by
  have hg:=sim_get hT h;constructor
  · intro hl;rw[List.getElem?_eq_none hl] at hg
    cases h2:T'[s'.i]? with
    | none=>exact List.getElem?_eq_none_iff.1 h2
    | some t=>rw[h2] at hg;simp at hg
  · intro hl;rw[List.getElem?_eq_none hl] at hg
    cases h2:T[s.i]? with
    | none=>exact List.getElem?_eq_none_iff.1 h2
    | some t=>rw[h2] at hg;simp at hg
end
inductive SimN:NT→NT→Prop where
  | same (nt:NT):SimN nt nt
  | bin {lvl:Nat} {n n':Nd} (h:jc8 n=jc8 n'):SimN (.binRest lvl n) (.binRest lvl n')
  | post {n n':Nd} (h:jc8 n=jc8 n'):SimN (.postRest n) (.postRest n')
theorem jnc {k:Int} {x x':List UInt8} {p p':Int} {l l':List Nd} {s s':Ps} (hx:x=x') (h:jd8 l=jd8 l'):jc8 (je3 T k x p l s)=jc8 (je3 T' k x' p' l' s'):=by
  subst hx;exact jgu h
theorem sim_list {l l':List Nd} {p p':Int} (h:jd8 l=jd8 l'):jc8 (jbm l p)=jc8 (jbm l' p'):=jgu h
theorem sim_cons {n n' l l':Nd} (h:jc8 n=jc8 n') (h':jc8 l=jc8 l'):jc8 (jen n l)=jc8 (jen n' l'):=jgu (jf6 h (jhf h'))
theorem sim_some {l l':List Nd} (h:jd8 l=jd8 l'):jc8 (jdo l)=jc8 (jdo l'):=jgu h
theorem strip_re {n n':Nd} {p e p' e':Int} (h:jc8 n=jc8 n'):jc8 (.mk n.kind n.text p e n.kids)=jc8 (.mk n'.kind n'.text p' e' n'.kids):=by
  rw[(jit h).1,(jit h).2];exact jgu (jhf h)
theorem iff_or {p q p' q':Prop} (h:p↔p') (h':q↔q'):(p∨q)↔(p'∨q'):=or_congr h h'
theorem iff_and {p q p' q':Prop} (h:p↔p') (h':q↔q'):(p∧q)↔(p'∧q'):=and_congr h h'
theorem iff_bad {s s':Ps} (h:jg2 a s s'):(s.bad.isSome=true)↔(s'.bad.isSome=true):=by rw[h.2]
section
variable (hT:SimT T T' a)
include hT
theorem iff_is {k:Int} {x:List UInt8} {s s':Ps} (h:jg2 a s s'):(isP T k x s=true)↔(isP T' k x s'=true):=by rw[sim_is hT h]
theorem iff_kind {k:Int} {s s':Ps} (h:jg2 a s s'):(jbi T s=k)↔(jbi T' s'=k):=by rw[jiv hT h]
theorem iff_op {lvl:Nat} {s s':Ps} (h:jg2 a s s'):(opP T lvl s=[])↔(opP T' lvl s'=[]):=by rw[sim_op hT h]
theorem iff_semi {s s':Ps} (h:jg2 a s s'):(jiw T s=true)↔(jiw T' s'=true):=by rw[sim_semi hT h]
theorem iff_const {s s':Ps} (h:jg2 a s s'):(jdu (txtP T s)=true)↔(jdu (txtP T' s')=true):=by rw[sim_txt hT h]
theorem sim_opt {k:Int} {x:List UInt8} {s s':Ps} (h:jg2 a s s') :
    jd8 (if isP T k x s=true then ([(jel T len (jbb s)).1],(jel T len (jbb s)).2) else ([],s)).1=jd8 (if isP T' k x s'=true then ([(jel T' len' (jbb s')).1],(jel T' len' (jbb s')).2) else ([],s')).1 ∧
    jg2 a (if isP T k x s=true then ([(jel T len (jbb s)).1],(jel T len (jbb s)).2) else ([],s)).2 (if isP T' k x s'=true then ([(jel T' len' (jbb s')).1],(jel T' len' (jbb s')).2) else ([],s')).2:=by
  rw[sim_is hT h];split
  · obtain ⟨h1,h2⟩:=sim_typ (len:=len) (len':=len') hT (jhv h);exact ⟨jf6 h1 rfl,h2⟩
  · exact ⟨rfl,h⟩
theorem sim_first {first:Bool} {s s':Ps} (h:jg2 a s s'):jg2 a (if first=true then s else jab T len 5 [44] s) (if first=true then s' else jab T' len' 5 [44] s'):=by
  split
  · exact h
  · exact jnb hT h
theorem sim_either {s s':Ps} (h:jg2 a s s'):jc8 (if jbi T s=7 then jco T len false s else jel T len s).1=jc8 (if jbi T' s'=7 then jco T' len' false s' else jel T' len' s').1 ∧
    jg2 a (if jbi T s=7 then jco T len false s else jel T len s).2 (if jbi T' s'=7 then jco T' len' false s' else jel T' len' s').2:=by
  rw[jiv hT h];split
  · exact jkg hT h
  · exact sim_typ hT h
theorem sim_text1 {k:Int} {s s':Ps} (h:jg2 a s s'):(jai T len k s).1=(jai T' len' k s').1:=(jiu hT h).1
theorem sim_text2 {k:Int} {s s':Ps} (h:jg2 a s s'):jg2 a (jai T len k s).2 (jai T' len' k s').2:=(jiu hT h).2
theorem sim_meta1 {w:Bool} {s s':Ps} (h:jg2 a s s'):jc8 (jco T len w s).1=jc8 (jco T' len' w s').1:=(jkg hT h).1
theorem sim_meta2 {w:Bool} {s s':Ps} (h:jg2 a s s'):jg2 a (jco T len w s).2 (jco T' len' w s').2:=(jkg hT h).2
theorem sim_name1  {s s':Ps} (h:jg2 a s s'):(jes T len s).1=(jes T' len' s').1:=(sim_name hT h).1
theorem sim_name2  {s s':Ps} (h:jg2 a s s'):jg2 a (jes T len s).2 (jes T' len' s').2:=(sim_name hT h).2
theorem sim_typ1  {s s':Ps} (h:jg2 a s s'):jc8 (jel T len s).1=jc8 (jel T' len' s').1:=(sim_typ hT h).1
theorem sim_typ2  {s s':Ps} (h:jg2 a s s'):jg2 a (jel T len s).2 (jel T' len' s').2:=(sim_typ hT h).2
theorem sim_param1  {s s':Ps} (h:jg2 a s s'):jc8 (jdm T len s).1=jc8 (jdm T' len' s').1:=(sim_param hT h).1
theorem sim_param2  {s s':Ps} (h:jg2 a s s'):jg2 a (jdm T len s).2 (jdm T' len' s').2:=(sim_param hT h).2
theorem sim_body {rec rec':NT→Ps→Got} (ih:∀nt nt' s s',SimN nt nt'→jg2 a s s'→SimO a (rec nt s) (rec' nt' s')) (nt nt':NT) (s s':Ps) (hn:SimN nt nt') (hs:jg2 a s s') :
    SimO a (jbo T len rec nt s) (jbo T' len' rec' nt' s'):=by
  cases hn with
  | bin h =>
    unfold jbo bBin;dsimp only;refine SimO.ite (iff_or (iff_bad hs) (iff_op hT hs)) (SimO.some h hs) (SimO.thenP (ih _ _ _ _ (.same _) (jhv hs)) fun n n' r r' h1 h2=>?_);exact ih _ _ _ _ (.bin (jnc (sim_op hT hs) (jf6 h (jf6 h1 rfl)))) h2
  | post h =>
    unfold jbo jkb;dsimp only;refine SimO.ite (iff_bad hs) (SimO.some h hs) (SimO.ite (iff_is hT hs) ?_ (SimO.ite (iff_is hT hs) ?_ (SimO.some h hs)))
    · obtain ⟨h1,h2⟩:=jiu (len:=len) (len':=len') (k:=1) hT (jhv hs);exact ih _ _ _ _ (.post (jnc h1 (jf6 h rfl))) h2
    · refine SimO.thenP (ih _ _ _ _ (.same _) (jhv hs)) fun n n' r r' h1 h2=>?_;exact ih _ _ _ _ (.post (jnc rfl (jf6 h (jhf h1)))) h2
  | same =>
    cases nt<;>dsimp only[jbo,jfi,jip,jl8,jjl,jjg,jjf,jev,jl6,jfl,bVar,jh8,jjh,jio,jhq,jn5,jl7,bBin,jhp,jkb,jn6,jh9,jdv]<;>
      repeat' (first
        | assumption
        | rfl
        | exact Iff.rfl
        | apply iff_or | apply iff_and | apply iff_bad | apply iff_is hT | apply iff_kind hT | apply iff_op hT | apply iff_semi hT | apply iff_const hT | exact sim_end hT hs
        | apply SimO.ite
        | (apply SimO.thenP;rotate_left;intro n n' r r' h1 h2;rotate_right)
        | apply ih
        | exact SimN.same _
        | (apply SimO.pair;apply jkg hT)
        | apply SimO.some
        | apply sim_op hT
        | apply strip_re
        | apply SimN.bin
        | apply SimN.post
        | apply sim_cons | apply jnc | apply sim_list | apply sim_some | apply jgu
        | apply jhf
        | apply jf6 | apply stripL_app
        | apply sim_meta2 hT | apply jhv | apply sim_fail | apply jnb hT
        | apply sim_text1 hT | apply sim_name1 hT | apply sim_typ1 hT | apply sim_meta1 hT | apply sim_param1 hT
        | apply sim_text2 hT | apply sim_name2 hT | apply sim_typ2 hT | apply sim_meta2 hT | apply sim_param2 hT
        | apply sim_first hT
        | apply (sim_opt hT _).1 | apply (sim_opt hT _).2 | apply (sim_either hT _).1 | apply (sim_either hT _).2
        | apply (jit _).1 | apply (jit _).2)
theorem sim_read:∀(f:Nat) (nt nt':NT) (s s':Ps),SimN nt nt'→jg2 a s s'→SimO a (jaw T len f nt s) (jaw T' len' f nt' s'):=by
  intro f
  induction f with
  | zero=>intro nt nt' s s' _ _ n r h;cases h
  | succ f ih=>intro nt nt' s s' hn hs;exact sim_body hT ih nt nt' s s' hn hs
end
end
section
section
variable (T:List Tk)
def xAt (i:Nat):List UInt8:=match T[i]? with | none=>[] | some t=>t.text
def jce (i:Nat) (k:Int) (x:List UInt8):Bool:=kAt T i==k&&xAt T i==x
def jnj (lvl:Nat) (i:Nat):List UInt8:=(jkl lvl).foldl (fun o x=>if jce T i 5 x then x else o) []
def jlh (i:Nat):Bool:=jce T (i+1) 5 [59]
end
inductive RN where
  | n (nt:NT) | typ | param | elem | arg | optTyp (k:Int) (x:List UInt8) | optTypes (x:List UInt8) | optInit | optElse | optExpr | blk (b:Bool)
inductive Run (T:List Tk):RN→Nat→Nd→Nat→Prop where
  | imp0 {i:Nat}:jce T i 2 jft=false→Run T (.n .imports) i je8 i
  | imp1 {i j:Nat} {l:Nd}:jce T i 2 jft=true→kAt T (i+1)=1→jce T (i+2) 5 [59]=true→Run T (.n .imports) (i+3) l j →
      Run T (.n .imports) i (jen (nd T 2 (xAt T (i+1)) i [] (i+3)) l) j
  | decls0 {i:Nat}:T.length≤i→Run T (.n .decls) i je8 i
  | decls1 {i k j:Nat} {n l:Nd}:i<T.length→Run T (.n .decl) i n k→Run T (.n .decls) k l j→Run T (.n .decls) i (jen n l) j
  | declC {i j:Nat} {n:Nd}:jce T i 2 jeo=true→Run T (.n .classD) i n j→Run T (.n .decl) i n j
  | declI {i j:Nat} {n:Nd}:jce T i 2 jeo=false→jce T i 2 jey=true→Run T (.n .ifaceD) i n j→Run T (.n .decl) i n j
  | declF {i j:Nat} {n:Nd}:jce T i 2 jeo=false→jce T i 2 jey=false→jce T i 2 jed=true→Run T (.n (.funcD true)) i n j→Run T (.n .decl) i n j
  | declV {i j:Nat} {n:Nd}:jce T i 2 jeo=false→jce T i 2 jey=false→jce T i 2 jed=false→Run T (.n .varD) i n j→Run T (.n .decl) i n j
  | classD {i k m q:Nat} {e b l:Nd}:jce T i 2 jeo=true→kAt T (i+1)=1→Run T (.optTyp 2 jmr) (i+2) e k→Run T (.optTypes jis) k b m→jce T m 5 [123]=true →
      Run T (.n (.members true)) (m+1) l q→jce T q 5 [125]=true →
      Run T (.n .classD) i (nd T 3 (xAt T (i+1)) i [jbm e.kids (jc2 T (i+2)),jbm b.kids (jc2 T k),jbm l.kids (jc2 T (m+1))] (q+1)) (q+1)
  | ifaceD {i m q:Nat} {b l:Nd}:jce T i 2 jey=true→kAt T (i+1)=1→Run T (.optTypes jmr) (i+2) b m→jce T m 5 [123]=true →
      Run T (.n (.members false)) (m+1) l q→jce T q 5 [125]=true →
      Run T (.n .ifaceD) i (nd T 4 (xAt T (i+1)) i [jbm b.kids (jc2 T (i+2)),jbm l.kids (jc2 T (m+1))] (q+1)) (q+1)
  | mem0 {c:Bool} {i:Nat}:jce T i 5 [125]=true→Run T (.n (.members c)) i je8 i
  | mem1 {c:Bool} {i j:Nat} {l:Nd}:kAt T i=6∨kAt T i=7→jce T (i+1) 5 [59]=true→Run T (.n (.members c)) (i+2) l j →
      Run T (.n (.members c)) i (jen (nd T (if kAt T i=7 then 26 else 25) (xAt T i) i [] (i+2)) l) j
  | mem2 {c:Bool} {i k j:Nat} {n l:Nd}:jce T i 2 jed=true→Run T (.n (.funcD c)) i n k→Run T (.n (.members c)) k l j→Run T (.n (.members c)) i (jen n l) j
  | mem3 {i k j:Nat} {n l:Nd}:jce T i 5 [125]=false→jce T i 2 jed=false→Run T (.n .varD) i n k→Run T (.n (.members true)) k l j→Run T (.n (.members true)) i (jen n l) j
  | funcD {b:Bool} {i k m j:Nat} {a e c:Nd}:jce T i 2 jed=true→kAt T (i+1)=1→jce T (i+2) 5 [40]=true→Run T (.n (.params true)) (i+3) a k→jce T k 5 [41]=true →
      Run T (.optTyp 5 [58]) (k+1) e m→Run T (.blk b) m c j →
      Run T (.n (.funcD b)) i (nd T 5 (xAt T (i+1)) i [jbm a.kids (jc2 T (i+3)),jbm e.kids (jc2 T (k+1)),jbm c.kids (jc2 T m)] j) j
  | blk1 {i j:Nat} {n:Nd}:Run T (.n .block) i n j→Run T (.blk true) i (jdo [n]) j
  | blk0 {i:Nat}:jce T i 5 [59]=true→Run T (.blk false) i je8 (i+1)
  | params0 {f:Bool} {i:Nat}:jce T i 5 [41]=true→Run T (.n (.params f)) i je8 i
  | params1 {i k j:Nat} {n l:Nd}:jce T i 5 [41]=false→Run T .param i n k→Run T (.n (.params false)) k l j→Run T (.n (.params true)) i (jen n l) j
  | params2 {i k j:Nat} {n l:Nd}:jce T i 5 [44]=true→Run T .param (i+1) n k→Run T (.n (.params false)) k l j→Run T (.n (.params false)) i (jen n l) j
  | param0 {i:Nat}:kAt T i=7→Run T .param i (nd T 26 (xAt T i) i [] (i+1)) (i+1)
  | param1 {i j:Nat} {t:Nd}:kAt T i=1→jce T (i+1) 5 [58]=true→Run T .typ (i+2) t j→Run T .param i (nd T 7 (xAt T i) i [t] j) j
  | varD {i k m:Nat} {t l:Nd}:jce T i 2 jji=true→kAt T (i+1)=1→jce T (i+2) 5 [58]=true→Run T .typ (i+3) t k→Run T .optInit k l m→jce T m 5 [59]=true →
      Run T (.n .varD) i (nd T 6 (xAt T (i+1)) i [t,jbm l.kids (jc2 T k)] (m+1)) (m+1)
  | typM {i:Nat}:kAt T i=6→Run T .typ i (nd T 25 (xAt T i) i [] (i+1)) (i+1)
  | typ1 {i:Nat}:kAt T i=1→jce T (i+1) 5 [46]=false→Run T .typ i (nd T 8 (xAt T i) i [] (i+1)) (i+1)
  | typ2 {i:Nat}:kAt T i=1→jce T (i+1) 5 [46]=true→kAt T (i+2)=1→Run T .typ i (nd T 8 (xAt T i++46 :: xAt T (i+2)) i [] (i+3)) (i+3)
  | elem0 {i:Nat}:kAt T i=7→Run T .elem i (nd T 26 (xAt T i) i [] (i+1)) (i+1)
  | elem1 {i j:Nat} {n:Nd}:¬kAt T i=7→Run T .typ i n j→Run T .elem i n j
  | types0 {i j:Nat} {n:Nd}:Run T .elem i n j→jce T j 5 [44]=false→Run T (.n .types) i (jdo [n]) j
  | types1 {i k j:Nat} {n l:Nd}:Run T .elem i n k→jce T k 5 [44]=true→Run T (.n .types) (k+1) l j→Run T (.n .types) i (jen n l) j
  | optTyp0 {k:Int} {x:List UInt8} {i:Nat}:k≠0→jce T i k x=false→Run T (.optTyp k x) i je8 i
  | optTyp1 {k:Int} {x:List UInt8} {i j:Nat} {n:Nd}:k≠0→jce T i k x=true→Run T .typ (i+1) n j→Run T (.optTyp k x) i (jdo [n]) j
  | optTypes0 {x:List UInt8} {i:Nat}:jce T i 2 x=false→Run T (.optTypes x) i je8 i
  | optTypes1 {x:List UInt8} {i j:Nat} {n:Nd}:jce T i 2 x=true→Run T (.n .types) (i+1) n j→Run T (.optTypes x) i n j
  | optInit0 {i:Nat}:jce T i 5 [61]=false→Run T .optInit i je8 i
  | optInit1 {i j:Nat} {n:Nd}:jce T i 5 [61]=true→Run T (.n (.expr 0)) (i+1) n j→Run T .optInit i (jdo [n]) j
  | block {i j:Nat} {l:Nd}:jce T i 5 [123]=true→Run T (.n .stmts) (i+1) l j→jce T j 5 [125]=true→Run T (.n .block) i (nd T 9 [] i l.kids (j+1)) (j+1)
  | stmts0 {i:Nat}:jce T i 5 [125]=true→Run T (.n .stmts) i je8 i
  | stmts1 {i k j:Nat} {n l:Nd}:jce T i 5 [125]=false→Run T (.n .stmt) i n k→Run T (.n .stmts) k l j→Run T (.n .stmts) i (jen n l) j
  | stmtM {i:Nat}:kAt T i=7∨kAt T i=6→jce T (i+1) 5 [59]=true→Run T (.n .stmt) i (nd T (if kAt T i=7 then 26 else 25) (xAt T i) i [] (i+2)) (i+2)
  | stmtV {i j:Nat} {n:Nd}:jce T i 2 jji=true→Run T (.n .varD) i n j→Run T (.n .stmt) i n j
  | stmtB {i j:Nat} {n:Nd}:jce T i 5 [123]=true→Run T (.n .block) i n j→Run T (.n .stmt) i n j
  | stmtR {i j:Nat} {l:Nd}:jce T i 2 jdy=true→Run T .optExpr (i+1) l j→jce T j 5 [59]=true→Run T (.n .stmt) i (nd T 10 [] i l.kids (j+1)) (j+1)
  | stmtI {i k m j:Nat} {c a b:Nd}:jce T i 2 xIf=true→Run T (.n .cond) (i+1) c k→Run T (.n .block) k a m→Run T .optElse m b j→Run T (.n .stmt) i (nd T 11 [] i [c,a,jbm b.kids (jc2 T m)] j) j
  | stmtW {i k j:Nat} {c a:Nd}:jce T i 2 jgx=true→Run T (.n .cond) (i+1) c k→Run T (.n .block) k a j→Run T (.n .stmt) i (nd T 12 [] i [c,a] j) j
  | stmtA {i k j:Nat} {a b:Nd}:¬(kAt T i=7∨(kAt T i=6∧jlh T i=true))→jce T i 2 jji=false→jce T i 5 [123]=false→jce T i 2 jdy=false→jce T i 2 xIf=false→jce T i 2 jgx=false →
      Run T (.n (.expr 0)) i a k→jce T k 5 [61]=true→Run T (.n (.expr 0)) (k+1) b j→jce T j 5 [59]=true→Run T (.n .stmt) i (nd T 13 [] i [a,b] (j+1)) (j+1)
  | stmtD {i j:Nat} {a:Nd}:¬(kAt T i=7∨(kAt T i=6∧jlh T i=true))→jce T i 2 jji=false→jce T i 5 [123]=false→jce T i 2 jdy=false→jce T i 2 xIf=false→jce T i 2 jgx=false →
      Run T (.n (.expr 0)) i a j→jce T j 5 [61]=false→jce T j 5 [59]=true→Run T (.n .stmt) i (nd T 14 [] i [a] (j+1)) (j+1)
  | optExpr0 {i:Nat}:jce T i 5 [59]=true→Run T .optExpr i je8 i
  | optExpr1 {i j:Nat} {n:Nd}:jce T i 5 [59]=false→Run T (.n (.expr 0)) i n j→Run T .optExpr i (jdo [n]) j
  | optElse0 {i:Nat}:jce T i 2 jlc=false→Run T .optElse i je8 i
  | optElse1 {i j:Nat} {n:Nd}:jce T i 2 jlc=true→Run T (.n .block) (i+1) n j→Run T .optElse i (jdo [n]) j
  | cond {i j:Nat} {n:Nd}:jce T i 5 [40]=true→Run T (.n (.expr 0)) (i+1) n j→jce T j 5 [41]=true→Run T (.n .cond) i n (j+1)
  | expr {lvl i k j:Nat} {n m:Nd}:lvl<6→Run T (.n (.expr (lvl+1))) i n k→Run T (.n (.binRest lvl n)) k m j→Run T (.n (.expr lvl)) i m j
  | exprU {lvl i j:Nat} {n:Nd}:6≤lvl→Run T (.n .unary) i n j→Run T (.n (.expr lvl)) i n j
  | bin0 {lvl i:Nat} {n:Nd}:jnj T lvl i=[]→Run T (.n (.binRest lvl n)) i n i
  | bin1 {lvl i k j:Nat} {n b m:Nd}:jnj T lvl i≠[]→Run T (.n (.expr (lvl+1))) (i+1) b k→Run T (.n (.binRest lvl (.mk 23 (jnj T lvl i) n.at_ (jc2 T k) [n,b]))) k m j→Run T (.n (.binRest lvl n)) i m j
  | unary1 {i j:Nat} {a:Nd}:jce T i 5 [33]=true∨jce T i 5 [45]=true→Run T (.n .unary) (i+1) a j→Run T (.n .unary) i (nd T 22 (xAt T i) i [a] j) j
  | unary2 {i k j:Nat} {n m:Nd}:jce T i 5 [33]=false→jce T i 5 [45]=false→Run T (.n .primary) i n k→Run T (.n (.postRest n)) k m j→Run T (.n .unary) i m j
  | post0 {i:Nat} {n:Nd}:jce T i 5 [46]=false→jce T i 5 [40]=false→Run T (.n (.postRest n)) i n i
  | post1 {i j:Nat} {n m:Nd}:jce T i 5 [46]=true→kAt T (i+1)=1→Run T (.n (.postRest (.mk 19 (xAt T (i+1)) n.at_ (jc2 T (i+2)) [n]))) (i+2) m j→Run T (.n (.postRest n)) i m j
  | post2 {i k j:Nat} {n a m:Nd}:jce T i 5 [40]=true→Run T (.n .args) (i+1) a k→Run T (.n (.postRest (.mk 20 [] n.at_ (jc2 T k) (n :: a.kids)))) k m j→Run T (.n (.postRest n)) i m j
  | args {i j:Nat} {l:Nd}:Run T (.n (.argsL true)) i l j→jce T j 5 [41]=true→Run T (.n .args) i l (j+1)
  | argsL0 {f:Bool} {i:Nat}:jce T i 5 [41]=true→Run T (.n (.argsL f)) i je8 i
  | argsL1 {i k j:Nat} {n l:Nd}:jce T i 5 [41]=false→Run T .arg i n k→Run T (.n (.argsL false)) k l j→Run T (.n (.argsL true)) i (jen n l) j
  | argsL2 {i k j:Nat} {n l:Nd}:jce T i 5 [44]=true→Run T .arg (i+1) n k→Run T (.n (.argsL false)) k l j→Run T (.n (.argsL false)) i (jen n l) j
  | arg0 {i:Nat}:kAt T i=7→Run T .arg i (nd T 26 (xAt T i) i [] (i+1)) (i+1)
  | arg1 {i j:Nat} {n:Nd}:¬kAt T i=7→Run T (.n (.expr 0)) i n j→Run T .arg i n j
  | leaf {i:Nat} {q:Int}:(kAt T i=1∧q=15)∨(kAt T i=3∧q=16)∨(kAt T i=4∧q=17)→Run T (.n .primary) i (nd T q (xAt T i) i [] (i+1)) (i+1)
  | primM {i:Nat}:kAt T i=6→Run T (.n .primary) i (nd T 25 (xAt T i) i [] (i+1)) (i+1)
  | new1 {i j:Nat} {l:Nd}:jce T i 2 xNew=true→kAt T (i+1)=1→jce T (i+2) 5 [46]=false→jce T (i+2) 5 [40]=true→Run T (.n .args) (i+3) l j →
      Run T (.n .primary) i (nd T 21 (xAt T (i+1)) i l.kids j) j
  | new2 {i j:Nat} {l:Nd}:jce T i 2 xNew=true→kAt T (i+1)=1→jce T (i+2) 5 [46]=true→kAt T (i+3)=1→jce T (i+4) 5 [40]=true→Run T (.n .args) (i+5) l j →
      Run T (.n .primary) i (nd T 21 (xAt T (i+1)++46 :: xAt T (i+3)) i l.kids j) j
  | const {i:Nat}:jce T i 2 xNew=false→kAt T i=2→jdu (xAt T i)=true→Run T (.n .primary) i (nd T 18 (xAt T i) i [] (i+1)) (i+1)
  | paren {i j:Nat} {n:Nd}:jce T i 5 [40]=true→Run T (.n (.expr 0)) (i+1) n j→jce T j 5 [41]=true→Run T (.n .primary) i (.mk n.kind n.text (atT T i) (jc2 T (j+1)) n.kids) (j+1)
section
variable {T:List Tk} {len:Int}
theorem jan (i:Nat):jbi T ⟨i,none⟩=kAt T i:=rfl
theorem jay (k:Int) (x:List UInt8) (i:Nat):isP T k x ⟨i,none⟩=jce T i k x:=rfl
theorem jas (i:Nat) (b:Option Int):jao T ⟨i,b⟩=jc2 T i:=rfl
theorem jbf {i:Nat} (h:kAt T i≠0):i<T.length:=by
  unfold kAt at h
  cases hT:T[i]? with
  | none=>rw[hT] at h;simp at h
  | some t=>exact (List.getElem?_eq_some_iff.1 hT).1
theorem jbj {i:Nat} {k:Int} {x:List UInt8} (h:jce T i k x=true):kAt T i=k∧xAt T i=x:=by
  unfold jce at h;rw[Bool.and_eq_true,beq_iff_eq,beq_iff_eq] at h;exact h
theorem from_ok {i:Nat} (b:Option Int) (h:kAt T i≠0):jaq T len ⟨i,b⟩=atT T i:=by
  have:=jbf h;unfold jaq atT;rw[List.getElem?_eq_getElem this]
theorem jd6 {k:Int} {x:List UInt8} {s:Ps} {j:Nat} (hk:k≠0) (h:jab T len k x s=⟨j,none⟩):∃i,s=⟨i,none⟩∧jce T i k x=true∧j=i+1:=by
  unfold jab at h;split at h
  · rename_i hi;have hb:=(jh6 (jj5 hk hi)).1;obtain ⟨i,b⟩:=s
    cases b with
    | some b=>cases hb
    | none =>
      unfold jbb at h;injection h with h1;exact ⟨i,rfl,hi,h1.symm⟩
  · exact absurd (by rw[h]) (fail_no (T:=T) (len:=len) (s:=s))
theorem ji3 {k:Int} {s:Ps} {x:List UInt8} {j:Nat} (hk:k≠0) (h:jai T len k s=(x,⟨j,none⟩)):∃i,s=⟨i,none⟩∧kAt T i=k∧j=i+1∧x=xAt T i:=by
  unfold jai at h;split at h
  · rename_i hi;have hb:=(jh6 (by rw[hi];exact hk)).1;obtain ⟨i,b⟩:=s
    cases b with
    | some b=>cases hb
    | none =>
      unfold jbb at h;injection h with h1 h2;injection h2 with h2;exact ⟨i,rfl,hi,h2.symm,h1.symm⟩
  · injection h with h1 h2;exact absurd (by rw[h2]) (fail_no (T:=T) (len:=len) (s:=s))
theorem read_ok {f:Nat} {nt:NT} {s:Ps} {n:Nd} {j:Nat} (h:jaw T len f nt s=some (n,⟨j,none⟩)):∃i,s=⟨i,none⟩:=by
  obtain ⟨i,b⟩:=s
  cases b with
  | none=>exact ⟨i,rfl⟩
  | some b =>
    have:=(jep h).1.stay rfl;injection this with _ h2;cases h2
end
end
section
section
variable {T:List Tk} {len:Int}
theorem jer {i j:Nat} {q:Int} {x:List UInt8} {l:List Nd} (b:Option Int) (h:kAt T i≠0):je3 T q x (jaq T len ⟨i,b⟩) l ⟨j,none⟩=nd T q x i l j:=by
  unfold je3 nd;rw[from_ok b h,jas]
theorem jh7 {i:Nat} {k:Int} {x:List UInt8} (hk:k≠0) (h:jce T i k x=true):kAt T i≠0:=by rw[(jbj h).1];exact hk
theorem jm7 {k:Int} {i:Nat} (h:kAt T i=k):jai T len k ⟨i,none⟩=(xAt T i,⟨i+1,none⟩):=by
  unfold jai;rw[jan,if_pos h];try rfl
theorem want_is {k:Int} {x:List UInt8} {i:Nat} (h:jce T i k x=true):jab T len k x ⟨i,none⟩=⟨i+1,none⟩:=by
  unfold jab;rw[jay,if_pos h];try rfl
theorem jkz {w:Bool} {s:Ps} {n:Nd} {j:Nat} (hk:jbi T s=6∨jbi T s=7) (h:jco T len w s=(n,⟨j,none⟩)) :
    ∃i,s=⟨i,none⟩∧(kAt T i=6∨kAt T i=7)∧n=nd T (if kAt T i=7 then 26 else 25) (xAt T i) i [] j∧(w=false→j=i+1)∧(w=true→jce T (i+1) 5 [59]=true∧j=i+2):=by
  obtain ⟨i,b⟩:=s;have hb:=(jh6 (T:=T) (s:=⟨i,b⟩) (by rcases hk with h | h<;>rw[h]<;>decide)).1
  cases b with
  | some b=>cases hb
  | none =>
    rw[jan] at hk;(have hn:kAt T i≠0:=by rcases hk with h | h<;>rw[h]<;>decide);unfold jco at h;dsimp only at h;rw[jan,jm7 rfl] at h;injection h with h1 h2
    cases w with
    | false =>
      have h2:(⟨i+1,none⟩:Ps)=⟨j,none⟩:=h2;injection h2 with h3;subst h3;refine ⟨i,rfl,hk,?_,fun _=>rfl,fun h=>by cases h⟩;rw[←h1];exact jer none hn
    | true =>
      have h2:jab T len 5 [59] ⟨i+1,none⟩=⟨j,none⟩:=h2;have h1:je3 T (if kAt T i=7 then 26 else 25) (xAt T i) (jaq T len ⟨i,none⟩) [] (jab T len 5 [59] ⟨i+1,none⟩)=n:=h1;obtain ⟨i',hi',hs,rfl⟩:=jd6 (by decide) h2;injection hi' with hi';subst hi';refine ⟨i,rfl,hk,?_,(fun h=>by cases h),fun _=>⟨hs,rfl⟩⟩;rw[←h1,want_is hs];exact jer none hn
theorem name_ok {s:Ps} {x:List UInt8} {j:Nat} (h:jes T len s=(x,⟨j,none⟩)) :
    ∃i,s=⟨i,none⟩∧kAt T i=1∧((jce T (i+1) 5 [46]=false∧j=i+1∧x=xAt T i)∨(jce T (i+1) 5 [46]=true∧kAt T (i+2)=1∧j=i+3∧x=xAt T i++46 :: xAt T (i+2))):=by
  unfold jes at h;dsimp only at h;obtain ⟨r,hr⟩:=jx (jai T len 1 s);rw[hr] at h;obtain ⟨y,q⟩:=r;dsimp only at h;split at h
  · rename_i hp;have hb:=ji9 (by decide) hp;obtain ⟨k,b⟩:=q
    cases b with
    | some b=>cases hb
    | none =>
      obtain ⟨i,rfl,hi,rfl,rfl⟩:=ji3 (by decide) hr;injection h with h1 h2;obtain ⟨i2,hi2,hk2,rfl,hx⟩:=ji3 (k:=1) (by decide) (show jai T len 1 ⟨i+2,none⟩=((jai T len 1 ⟨i+2,none⟩).1,⟨j,none⟩) from by rw[←h2];rfl);injection hi2 with hi2;subst hi2;refine ⟨i,rfl,hi,Or.inr ⟨hp,hk2,rfl,?_⟩⟩;rw[←h1];show xAt T i++46 :: (jai T len 1 ⟨i+2,none⟩).1=_;rw[hx]
  · rename_i hp;injection h with h1 h2;subst h1 h2;obtain ⟨i,rfl,hi,rfl,rfl⟩:=ji3 (by decide) hr;refine ⟨i,rfl,hi,Or.inl ⟨?_,rfl,rfl⟩⟩;rw[jay] at hp;exact Bool.eq_false_iff.2 hp
theorem typ_ok {s:Ps} {n:Nd} {j:Nat} (h:jel T len s=(n,⟨j,none⟩)):∃i,s=⟨i,none⟩∧Run T .typ i n j:=by
  unfold jel at h;dsimp only at h;split at h
  · rename_i h6;obtain ⟨i,rfl,hk,rfl,h1,_⟩:=jkz (Or.inl h6) h;rw[jan] at h6;have:=h1 rfl;subst this;refine ⟨i,rfl,?_⟩;rw[if_neg (by rw[h6];decide)];exact .typM h6
  · rename_i h6;injection h with h1 h2;obtain ⟨i,rfl,hk,hh⟩:=name_ok (x:=(jes T len s).1) (j:=j) (by rw[←h2]);refine ⟨i,rfl,?_⟩;rw[h2,jer none (by rw[hk];decide)] at h1;subst h1;rcases hh with ⟨h3,rfl,h5⟩ | ⟨h3,h4,rfl,h5⟩
    · rw[h5];exact .typ1 hk h3
    · rw[h5];exact .typ2 hk h3 h4
theorem param_ok {s:Ps} {n:Nd} {j:Nat} (h:jdm T len s=(n,⟨j,none⟩)):∃i,s=⟨i,none⟩∧Run T .param i n j:=by
  unfold jdm at h;dsimp only at h;split at h
  · rename_i h7;obtain ⟨i,rfl,hk,rfl,h1,_⟩:=jkz (Or.inr h7) h;rw[jan] at h7;have:=h1 rfl;subst this;refine ⟨i,rfl,?_⟩;rw[if_pos h7];exact .param0 h7
  · obtain ⟨t,ht⟩:=jx (jel T len (jab T len 5 [58] (jai T len 1 s).2));rw[ht] at h;obtain ⟨t,q⟩:=t;injection h with h1 h2;dsimp only at h1 h2;subst h2;obtain ⟨k,hk,hr⟩:=typ_ok ht;obtain ⟨k2,hk2,hc,rfl⟩:=jd6 (by decide) hk;obtain ⟨i,rfl,hi,rfl,hx⟩:=ji3 (k:=1) (by decide) (show jai T len 1 s=((jai T len 1 s).1,⟨k2,none⟩) from by rw[←hk2]);refine ⟨i,rfl,?_⟩;rw[hx,jer none (by rw[hi];decide)] at h1;subst h1;exact .param1 hi hc hr
theorem optTyp_ok {k:Int} {x:List UInt8} {s:Ps} {e:List Nd × Ps} {j:Nat} (h:(if isP T k x s=true then ([(jel T len (jbb s)).1],(jel T len (jbb s)).2) else ([],s))=e) (hk:k≠0) (hj:e.2=⟨j,none⟩) :
    ∃i,s=⟨i,none⟩∧∃n,n.kids=e.1∧Run T (.optTyp k x) i n j:=by
  split at h
  · rename_i hp;have hb:=ji9 hk hp;subst h;obtain ⟨i,b⟩:=s
    cases b with
    | some b=>cases hb
    | none =>
      obtain ⟨i2,hi2,hr⟩:=typ_ok (n:=(jel T len (jbb ⟨i,none⟩)).1) (j:=j) (by rw[←hj]);injection hi2 with hi2;subst hi2;exact ⟨i,rfl,jdo [_],rfl,.optTyp1 hk hp hr⟩
  · rename_i hp;subst h;dsimp only at hj;subst hj;exact ⟨j,rfl,je8,rfl,.optTyp0 hk (Bool.eq_false_iff.2 hp)⟩
end
end
end Go.Proofs.YtonoklmobocikaaGreatDoor
