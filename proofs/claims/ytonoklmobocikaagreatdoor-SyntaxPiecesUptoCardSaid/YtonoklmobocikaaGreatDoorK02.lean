/- Lemmas. -/
import Derived.Test.YtonoklmobocikaaGreatDoorK01
set_option linter.unusedVariables false
set_option linter.unusedSimpArgs false
set_option maxRecDepth 20000
set_option maxHeartbeats 6400000
namespace Go.Proofs.YtonoklmobocikaaGreatDoor
section
def Le (o o':Got):Prop:=∀r,o=some r→o'=some r
theorem Le.refl (o:Got):Le o o:=fun _ h=>h
theorem Le.thenP {o o':Got} {k k':Nd→Ps→Got} (h:Le o o') (hk:∀n s,Le (k n s) (k' n s)):Le (thenP o k) (thenP o' k'):=by
  intro r hr;obtain ⟨n,s,h1,h2⟩:=ja2.1 hr;exact ja2.2 ⟨n,s,h _ h1,hk n s _ h2⟩
theorem Le.ite {c:Prop} [Decidable c] {a b a' b':Got} (h:Le a a') (h':Le b b'):Le (if c then a else b) (if c then a' else b'):=by
  split
  · exact h
  · exact h'
theorem body_mono (T:List Tk) (len:Int) {rec rec':NT→Ps→Got} (h:∀nt s,Le (rec nt s) (rec' nt s)) (nt:NT) (s:Ps):Le (jbo T len rec nt s) (jbo T len rec' nt s):=by
  cases nt<;>dsimp only[jbo,jfi,jip,jl8,jjl,jjg,jjf,jev,jl6,jfl,bVar,jh8,jjh,jio,jhq,jn5,jl7,bBin,jhp,jkb,jn6,jh9,jdv]<;>
    repeat (first | exact Le.refl _ | exact h _ _ | apply Le.ite | apply Le.thenP | intro n s)
theorem read_succ (T:List Tk) (len:Int):∀(f:Nat) (nt:NT) (s:Ps),Le (jaw T len f nt s) (jaw T len (f+1) nt s):=by
  intro f
  induction f with
  | zero=>intro nt s r h;cases h
  | succ f ih=>intro nt s;exact body_mono T len ih nt s
theorem jef {T:List Tk} {len:Int} {f g:Nat} {nt:NT} {s:Ps} {r:Nd × Ps} (h:jaw T len f nt s=some r) (hg:f≤g):jaw T len g nt s=some r:=by
  induction g with
  | zero =>
            (have:f=0:=by omega);subst this;exact h
  | succ g ih =>
    by_cases hf:f≤g
    · exact read_succ T len g nt s r (ih hf)
    · (have:f=g+1:=by omega);subst this;exact h
theorem read_one {T:List Tk} {len:Int} {f g:Nat} {nt:NT} {s:Ps} {r q:Nd × Ps} (h:jaw T len f nt s=some r) (k:jaw T len g nt s=some q):r=q:=by
  have h':=jef h (Nat.le_max_left f g);have k':=jef k (Nat.le_max_right f g);rw[h'] at k';exact Option.some.inj k'
section
variable (T:List Tk) (len:Int)
def jh5 (s:Ps):Nat:=if s.bad.isSome then 0 else (T.length - s.i)+1
structure Adv (s s':Ps):Prop where
  stay:s.bad.isSome=true→s'=s
  le:jh5 T s'≤jh5 T s
  inb:s.i≤T.length→s'.i≤T.length
structure Adv1 (s s':Ps):Prop extends Adv T s s' where
  lt:s.bad.isSome=false→jh5 T s' < jh5 T s
end
variable {T:List Tk} {len:Int}
theorem left_pos {s:Ps} (h:s.bad.isSome=false):0<jh5 T s:=by unfold jh5;rw[h];simp
theorem left_bad {s:Ps} (h:s.bad.isSome=true):jh5 T s=0:=by unfold jh5;rw[h];simp
theorem Adv.refl (s:Ps):Adv T s s:=⟨fun _=>rfl,Nat.le_refl _,fun h=>h⟩
theorem Adv.trans {a b c:Ps} (h:Adv T a b) (k:Adv T b c):Adv T a c :=
  ⟨fun hb=>by have:=h.stay hb;subst this;exact k.stay hb,Nat.le_trans k.le h.le,fun hi=>k.inb (h.inb hi)⟩
theorem Adv1.thenA {a b c:Ps} (h:Adv1 T a b) (k:Adv T b c):Adv1 T a c:=⟨h.toAdv.trans k,fun hb=>Nat.lt_of_le_of_lt k.le (h.lt hb)⟩
theorem Adv.then1 {a b c:Ps} (h:Adv T a b) (k:Adv1 T b c):Adv1 T a c:=by
  refine ⟨h.trans k.toAdv,fun hb=>?_⟩
  cases hb':b.bad.isSome with
  | true=>have:=k.stay hb';subst this;rw[left_bad hb'];exact left_pos hb
  | false=>exact Nat.lt_of_lt_of_le (k.lt hb') h.le
theorem Adv1.trans {a b c:Ps} (h:Adv1 T a b) (k:Adv1 T b c):Adv1 T a c:=h.thenA k.toAdv
theorem jh6 {s:Ps} (h:jbi T s≠0):s.bad.isSome=false∧s.i<T.length:=by
  unfold jbi at h
  cases hb:s.bad.isSome with
  | true=>rw[hb] at h;simp at h
  | false =>
    rw[hb] at h;refine ⟨rfl,?_⟩
    cases hT:T[s.i]? with
    | none=>rw[hT] at h;simp at h
    | some t=>exact (List.getElem?_eq_some_iff.1 hT).1
theorem jnk {s:Ps} (h:jbi T s≠0):Adv1 T s (jbb s):=by
  obtain ⟨hb,hi⟩:=jh6 h;refine ⟨⟨fun h=>(by rw[hb] at h;cases h),?_,fun _=>hi⟩,fun _=>?_⟩<;>(unfold jh5 jbb;rw[hb];simp;omega)
theorem jj5 {k:Int} {x:List UInt8} {s:Ps} (hk:k≠0) (h:isP T k x s=true):jbi T s≠0:=by
  unfold isP at h;rw[Bool.and_eq_true,beq_iff_eq] at h;rw[h.1];exact hk
theorem jns (s:Ps):Adv1 T s (jgg T len s):=by
  unfold jgg
  cases hb:s.bad.isSome with
  | true =>
    rw[if_pos rfl];exact ⟨Adv.refl s,fun h=>by rw[hb] at h;cases h⟩
  | false =>
    rw[if_neg (by decide)];refine ⟨⟨fun h=>(by rw[hb] at h;cases h),?_,fun h=>h⟩,fun _=>?_⟩
    · unfold jh5;simp
    · have:=left_pos (T:=T) hb;rw[left_bad (by rfl)];exact this
theorem jbz {k:Int} (hk:k≠0) (x:List UInt8) (s:Ps):Adv1 T s (jab T len k x s):=by
  unfold jab;split
  · rename_i h;exact jnk (jj5 hk h)
  · exact jns s
theorem jdq {k:Int} (hk:k≠0) (s:Ps):Adv1 T s (jai T len k s).2:=by
  unfold jai;split
  · rename_i h;exact jnk (by rw[h];exact hk)
  · exact jns s
theorem jfs {whole:Bool} {s:Ps} (h:jbi T s≠0):Adv1 T s (jco T len whole s).2:=by
  unfold jco;dsimp only
  cases whole with
  | true=>exact (jdq h s).trans (jbz (by decide) _ _)
  | false=>exact jdq h s
theorem name_adv (s:Ps):Adv1 T s (jes T len s).2:=by
  unfold jes;dsimp only;split
  · rename_i h;exact (jdq (by decide) s).trans ((jnk (jj5 (by decide) h)).trans (jdq (by decide) _))
  · exact jdq (by decide) s
theorem jm3 (s:Ps):Adv1 T s (jel T len s).2:=by
  unfold jel;dsimp only;split
  · rename_i h;exact jfs (by rw[h];decide)
  · exact name_adv s
theorem param_adv (s:Ps):Adv1 T s (jdm T len s).2:=by
  unfold jdm;dsimp only;split
  · rename_i h;exact jfs (by rw[h];decide)
  · exact (jdq (by decide) s).trans ((jbz (by decide) _ _).trans (jm3 _))
theorem is_bad {k:Int} {x:List UInt8} {s:Ps} (hk:k≠0) (h:s.bad.isSome=true):isP T k x s=false:=by
  cases hi:isP T k x s with
  | false=>rfl
  | true=>rw[(jh6 (jj5 hk hi)).1] at h;cases h
theorem op_in {lvl:Nat} {s:Ps} (h:opP T lvl s≠[]):∃x∈jkl lvl,isP T 5 x s=true∧opP T lvl s=x:=by
  unfold opP at h ⊢
  have key:∀(l:List (List UInt8)) (o:List UInt8),(l.foldl (fun o x=>if isP T 5 x s=true then x else o) o=o)∨∃x∈l,isP T 5 x s=true∧l.foldl (fun o x=>if isP T 5 x s=true then x else o) o=x:=by
    intro l
    induction l with
    | nil=>intro o;exact Or.inl rfl
    | cons y l ih =>
      intro o;rw[List.foldl_cons];rcases ih (if isP T 5 y s=true then y else o) with h | ⟨x,hx,h1,h2⟩
      · by_cases hy:isP T 5 y s=true
        · rw[if_pos hy] at h ⊢;exact Or.inr ⟨y,by simp,hy,h⟩
        · rw[if_neg hy] at h ⊢;exact Or.inl h
      · exact Or.inr ⟨x,by simp[hx],h1,h2⟩
  rcases key (jkl lvl) [] with h' | h'
  · exact absurd h' h
  · exact h'
def rkB:NT→Nat
  | .decl=>3 | .classD=>1 | .ifaceD=>1 | .funcD _=>2 | .block=>1 | .unary=>1 | .expr l=>2+(6 - l) | .cond=>9 | .stmt=>9 | .args=>1 | _=>0
def rkG:NT→Nat
  | .primary=>0 | .unary=>1 | .expr l=>2+(6 - l) | .argsL _=>9 | .args=>10 | .varD=>11 | .block=>11 | .stmt=>12 | .stmts=>13 | .classD=>14 | .ifaceD=>14 | .funcD _=>14
  | .decl=>15 | .decls=>16 | .members _=>16 | _=>0
def jcj (T:List Tk) (nt:NT) (s:Ps):Nat:=if s.bad.isSome then rkB nt else jh5 T s*32+rkG nt
theorem rkB_lt (nt:NT):rkB nt<32:=by cases nt<;>simp[rkB]<;>omega
theorem rkG_lt (nt:NT):rkG nt<32:=by cases nt<;>simp[rkG]<;>omega
theorem jbw {nt nt':NT} {s s':Ps} (h:jh5 T s' < jh5 T s):jcj T nt' s' < jcj T nt s:=by
  have hb:s.bad.isSome=false:=by
    cases hb:s.bad.isSome with
    | false=>rfl
    | true=>rw[left_bad hb] at h;omega
  unfold jcj;rw[hb,if_neg (by decide:¬(false=true))];have:=rkB_lt nt';have:=rkG_lt nt';split<;>omega
theorem ji8 {nt nt':NT} {s s':Ps} (h:Adv1 T s s') (hb:rkB nt' < rkB nt):jcj T nt' s' < jcj T nt s:=by
  cases hs:s.bad.isSome with
  | true =>
    have:=h.stay hs;subst this;unfold jcj;rw[hs];exact hb
  | false=>exact jbw (h.lt hs)
theorem jfa {nt nt':NT} {s:Ps} (hs:s.bad.isSome=false) (h:rkG nt' < rkG nt):jcj T nt' s<jcj T nt s:=by
  unfold jcj;rw[hs,if_neg (by decide),if_neg (by decide)];omega
theorem jii {nt nt':NT} {s:Ps} (hb:rkB nt' < rkB nt) (h:rkG nt' < rkG nt):jcj T nt' s<jcj T nt s:=by
  cases hs:s.bad.isSome with
  | true=>unfold jcj;rw[hs];exact hb
  | false=>exact jfa hs h
def Tot (o:Got) (Q:Ps→Prop):Prop:=∃n s,o=some (n,s)∧Q s
theorem Tot.some {n:Nd} {s:Ps} {Q:Ps→Prop} (h:Q s):Tot (some (n,s)) Q:=⟨n,s,rfl,h⟩
theorem Tot.pair {r:Nd × Ps} {Q:Ps→Prop} (h:Q r.2):Tot (Option.some r) Q:=⟨r.1,r.2,rfl,h⟩
theorem Tot.thenP {o:Got} {k:Nd→Ps→Got} {Q R:Ps→Prop} (h:Tot o Q) (hk:∀n s,Q s→Tot (k n s) R):Tot (thenP o k) R:=by
  obtain ⟨n,s,rfl,hq⟩:=h;exact hk n s hq
theorem Tot.mono {o:Got} {Q R:Ps→Prop} (h:Tot o Q) (hr:∀s,Q s→R s):Tot o R:=by
  obtain ⟨n,s,rfl,hq⟩:=h;exact ⟨n,s,rfl,hr s hq⟩
def strictP:NT→Bool
  | .decl | .classD | .ifaceD | .funcD _ | .varD | .types | .block | .stmt | .cond | .expr _ | .unary | .args | .primary=>true
  | _=>false
def AdvN (T:List Tk) (nt:NT) (s s':Ps):Prop:=Adv T s s'∧(strictP nt=true→Adv1 T s s')
theorem AdvN.of {nt:NT} {s s':Ps} (h:Adv1 T s s'):AdvN T nt s s':=⟨h.toAdv,fun _=>h⟩
theorem AdvN.lax {nt:NT} {s s':Ps} (hn:strictP nt=false) (h:Adv T s s'):AdvN T nt s s':=⟨h,fun k=>by rw[hn] at k;cases k⟩
end
section
section
variable {T:List Tk} {len:Int} {rec:NT→Ps→Got}
theorem ji9 {k:Int} {x:List UInt8} {s:Ps} (hk:k≠0) (h:isP T k x s=true):s.bad.isSome=false:=(jh6 (jj5 hk h)).1
theorem jfj {k:Int} {x:List UInt8} {s:Ps} (hk:k≠0) (h:isP T k x s=true):Adv1 T s (jbb s):=jnk (jj5 hk h)
theorem nb_of {s:Ps} {p:Prop} (h:¬(s.bad.isSome=true∨p)):s.bad.isSome=false:=by
  cases hb:s.bad.isSome with
  | false=>rfl
  | true=>exact absurd (Or.inl hb) h
theorem tot_imports {s:Ps} (ih:∀nt s',jcj T nt s' < jcj T .imports s→Tot (rec nt s') (AdvN T nt s')):Tot (jfi T len rec s) (AdvN T .imports s):=by
  unfold jfi;split
  · rename_i h;dsimp only;have a:=(jfj (by decide) h).trans ((jdq (len:=len) (k:=1) (by decide) _).trans (jbz (len:=len) (k:=5) (by decide) [59] _));exact (ih .imports _ (jbw (a.lt (ji9 (by decide) h)))).thenP fun l s3 q=>Tot.some (AdvN.lax rfl (a.toAdv.trans q.1))
  · exact Tot.some (AdvN.lax rfl (Adv.refl s))
theorem tot_decls {s:Ps} (ih:∀nt s',jcj T nt s' < jcj T .decls s→Tot (rec nt s') (AdvN T nt s')):Tot (jip T rec s) (AdvN T .decls s):=by
  unfold jip;split
  · exact Tot.some (AdvN.lax rfl (Adv.refl s))
  · rename_i h;have hb:=nb_of h;exact (ih .decl s (jfa hb (by decide))).thenP fun n s1 q=>(ih .decls s1 (jbw ((q.2 rfl).lt hb))).thenP fun l s2 q2=>Tot.some (AdvN.lax rfl (q.1.trans q2.1))
theorem tot_decl {s:Ps} (ih:∀nt s',jcj T nt s' < jcj T .decl s→Tot (rec nt s') (AdvN T nt s')):Tot (jl8 T rec s) (AdvN T .decl s):=by
  unfold jl8;split
  · rename_i h;exact (ih .classD s (jfa (ji9 (by decide) h) (by decide))).mono fun s' q=>AdvN.of (q.2 rfl)
  split
  · rename_i h;exact (ih .ifaceD s (jfa (ji9 (by decide) h) (by decide))).mono fun s' q=>AdvN.of (q.2 rfl)
  split
  · rename_i h;exact (ih (.funcD true) s (jfa (ji9 (by decide) h) (by simp[rkG]))).mono fun s' q=>AdvN.of (q.2 rfl)
  · exact (ih .varD s (jii (by decide) (by decide))).mono fun s' q=>AdvN.of (q.2 rfl)
theorem tot_body {k:Int} {x:List UInt8} {a:Int} {kids:List Nd} {cls:Bool} {s:Ps} (h:Tot (rec (.members cls) s) (AdvN T (.members cls) s)):Tot (jjl T len rec k x a kids cls s) (Adv1 T s):=by
  unfold jjl;exact h.thenP fun l s1 q=>Tot.some (q.1.then1 (jbz (by decide) _ _))
theorem tot_class {s:Ps} (ih:∀nt s',jcj T nt s' < jcj T .classD s→Tot (rec nt s') (AdvN T nt s')):Tot (jjg T len rec s) (AdvN T .classD s):=by
  unfold jjg;dsimp only;have a2:=(jbz (T:=T) (len:=len) (k:=2) (by decide) jeo s).trans (jdq (len:=len) (k:=1) (by decide) _);obtain ⟨r,hr⟩:=jx (jai T len 1 (jab T len 2 jeo s));rw[hr] at a2 ⊢
  have a3:Adv T r.2 (if isP T 2 jmr r.2=true then ([(jel T len (jbb r.2)).1],(jel T len (jbb r.2)).2) else ([],r.2)).2:=by
    split
    · rename_i h;exact ((jfj (by decide) h).trans (jm3 _)).toAdv
    · exact Adv.refl _
  obtain ⟨e,he⟩:=jx ((if isP T 2 jmr r.2=true then ([(jel T len (jbb r.2)).1],(jel T len (jbb r.2)).2) else ([],r.2)));rw[he] at a3 ⊢
  have t4:Tot (if isP T 2 jis e.2=true then rec .types (jbb e.2) else some (je8,e.2)) (Adv T e.2):=by
    split
    · rename_i h;have b:=jfj (by decide) h;exact (ih .types _ (ji8 (a2.thenA (a3.trans b.toAdv)) (by decide))).mono fun s' q=>b.toAdv.trans q.1
    · exact Tot.some (Adv.refl _)
  refine t4.thenP fun b s4 q=>?_;have a5:=(a2.thenA (a3.trans q)).trans (jbz (len:=len) (k:=5) (by decide) [123] s4);exact (tot_body (ih (.members true) _ (ji8 a5 (by simp[rkB])))).mono fun s' q=>AdvN.of (a5.trans q)
theorem tot_iface {s:Ps} (ih:∀nt s',jcj T nt s' < jcj T .ifaceD s→Tot (rec nt s') (AdvN T nt s')):Tot (jjf T len rec s) (AdvN T .ifaceD s):=by
  unfold jjf;dsimp only;have a2:=(jbz (T:=T) (len:=len) (k:=2) (by decide) jey s).trans (jdq (len:=len) (k:=1) (by decide) _);obtain ⟨r,hr⟩:=jx (jai T len 1 (jab T len 2 jey s));rw[hr] at a2 ⊢
  have t4:Tot (if isP T 2 jmr r.2=true then rec .types (jbb r.2) else some (je8,r.2)) (Adv T r.2):=by
    split
    · rename_i h;have b:=jfj (by decide) h;exact (ih .types _ (ji8 (a2.trans b) (by decide))).mono fun s' q=>b.toAdv.trans q.1
    · exact Tot.some (Adv.refl _)
  refine t4.thenP fun b s4 q=>?_;have a5:=(a2.thenA q).trans (jbz (len:=len) (k:=5) (by decide) [123] s4);exact (tot_body (ih (.members false) _ (ji8 a5 (by simp[rkB])))).mono fun s' q=>AdvN.of (a5.trans q)
theorem tot_members {cls:Bool} {s:Ps} (ih:∀nt s',jcj T nt s' < jcj T (.members cls) s→Tot (rec nt s') (AdvN T nt s')):Tot (jev T len rec cls s) (AdvN T (.members cls) s):=by
  unfold jev;dsimp only;split
  · exact Tot.some (AdvN.lax rfl (Adv.refl s))
  · rename_i h;have hb:=nb_of h;split
    · rename_i hk;have a:=jfs (T:=T) (len:=len) (whole:=true) (s:=s) (by rcases hk with h | h<;>rw[h]<;>decide);exact (ih (.members cls) _ (jbw (a.lt hb))).thenP fun l s2 q=>Tot.some (AdvN.lax rfl (a.toAdv.trans q.1))
    split
    · exact (ih (.funcD cls) s (jfa hb (by simp[rkG]))).thenP fun n s1 q=>(ih (.members cls) s1 (jbw ((q.2 rfl).lt hb))).thenP fun l s2 q2=>Tot.some (AdvN.lax rfl (q.1.trans q2.1))
    split
    · exact (ih .varD s (jfa hb (by simp[rkG]))).thenP fun n s1 q=>(ih (.members cls) s1 (jbw ((q.2 rfl).lt hb))).thenP fun l s2 q2=>Tot.some (AdvN.lax rfl (q.1.trans q2.1))
    · have a:=jns (T:=T) (len:=len) s;exact (ih (.members cls) _ (jbw (a.lt hb))).mono fun s' q=>AdvN.lax rfl (a.toAdv.trans q.1)
theorem tot_func {blk:Bool} {s:Ps} (ih:∀nt s',jcj T nt s' < jcj T (.funcD blk) s→Tot (rec nt s') (AdvN T nt s')):Tot (jl6 T len rec blk s) (AdvN T (.funcD blk) s):=by
  unfold jl6;dsimp only;have a3:=((jbz (T:=T) (len:=len) (k:=2) (by decide) jed s).trans (jdq (len:=len) (k:=1) (by decide) _)).trans (jbz (len:=len) (k:=5) (by decide) [40] _);refine (ih (.params true) _ (ji8 a3 (by simp[rkB]))).thenP fun a s4 q=>?_;have a5:=(a3.thenA q.1).trans (jbz (len:=len) (k:=5) (by decide) [41] s4);obtain ⟨s5,hs5⟩:∃r,jab T len 5 [41] s4=r:=⟨_,rfl⟩;rw[hs5] at a5 ⊢
  have a6:Adv T s5 (if isP T 5 [58] s5=true then ([(jel T len (jbb s5)).1],(jel T len (jbb s5)).2) else ([],s5)).2:=by
    split
    · rename_i h;exact ((jfj (by decide) h).trans (jm3 _)).toAdv
    · exact Adv.refl _
  obtain ⟨e,he⟩:=jx ((if isP T 5 [58] s5=true then ([(jel T len (jbb s5)).1],(jel T len (jbb s5)).2) else ([],s5)));rw[he] at a6 ⊢;have a7:=a5.thenA a6
  have t7:Tot (if blk=true then thenP (rec .block e.2) fun c s7=>some (jdo [c],s7) else some (je8,jab T len 5 [59] e.2)) (Adv T e.2):=by
    split
    · exact (ih .block _ (ji8 a7 (by simp[rkB]))).thenP fun c s7 q=>Tot.some q.1
    · exact Tot.some (jbz (by decide) _ _).toAdv
  exact t7.thenP fun c s7 q=>Tot.some (AdvN.of (a7.thenA q))
theorem tot_params {first:Bool} {s:Ps} (ih:∀nt s',jcj T nt s' < jcj T (.params first) s→Tot (rec nt s') (AdvN T nt s')):Tot (jfl T len rec first s) (AdvN T (.params first) s):=by
  unfold jfl;dsimp only;split
  · exact Tot.some (AdvN.lax rfl (Adv.refl s))
  · rename_i h;have hb:=nb_of h
    have a:Adv T s (if first=true then s else jab T len 5 [44] s):=by
      split
      · exact Adv.refl s
      · exact (jbz (by decide) _ _).toAdv
    have b:=a.then1 (param_adv (T:=T) (len:=len) _);exact (ih (.params false) _ (jbw (b.lt hb))).thenP fun l s2 q=>Tot.some (AdvN.lax rfl (b.toAdv.trans q.1))
theorem tot_var {s:Ps} (ih:∀nt s',jcj T nt s' < jcj T .varD s→Tot (rec nt s') (AdvN T nt s')):Tot (bVar T len rec s) (AdvN T .varD s):=by
  unfold bVar;dsimp only;have a3:=((jbz (T:=T) (len:=len) (k:=2) (by decide) jji s).trans (jdq (len:=len) (k:=1) (by decide) _)).trans ((jbz (len:=len) (k:=5) (by decide) [58] _).trans (jm3 (len:=len) _));obtain ⟨t,ht⟩:=jx (jel T len (jab T len 5 [58] (jai T len 1 (jab T len 2 jji s)).2));rw[ht] at a3 ⊢
  have t5:Tot (if isP T 5 [61] t.2=true then thenP (rec (.expr 0) (jbb t.2)) fun n s5=>some (jdo [n],s5) else some (je8,t.2)) (Adv T t.2):=by
    split
    · rename_i h;have b:=jfj (by decide) h
      have hb:s.bad.isSome=false:=by
        cases hs:s.bad.isSome with
        | false=>rfl
        | true=>have:=a3.stay hs;rw[this] at h;rw[is_bad (by decide) hs] at h;cases h
      exact (ih (.expr 0) _ (jbw ((a3.trans b).lt hb))).thenP fun n s5 q=>Tot.some (b.toAdv.trans q.1)
    · exact Tot.some (Adv.refl _)
  exact t5.thenP fun l s5 q=>Tot.some (AdvN.of ((a3.thenA q).trans (jbz (by decide) _ _)))
theorem tot_types {s:Ps} (ih:∀nt s',jcj T nt s' < jcj T .types s→Tot (rec nt s') (AdvN T nt s')):Tot (jh8 T len rec s) (AdvN T .types s):=by
  unfold jh8;dsimp only
  have a:Adv1 T s (if jbi T s=7 then jco T len false s else jel T len s).2:=by
    split
    · rename_i h;exact jfs (by rw[h];decide)
    · exact jm3 _
  obtain ⟨r,hr⟩:=jx ((if jbi T s=7 then jco T len false s else jel T len s));rw[hr] at a ⊢;split
  · rename_i h;have b:=jfj (by decide) h
    have hb:s.bad.isSome=false:=by
      cases hs:s.bad.isSome with
      | false=>rfl
      | true=>have:=a.stay hs;rw[this] at h;rw[is_bad (by decide) hs] at h;cases h
    exact (ih .types _ (jbw ((a.trans b).lt hb))).thenP fun l s2 q=>Tot.some (AdvN.of ((a.trans b).thenA q.1))
  · exact Tot.some (AdvN.of a)
theorem tot_block {s:Ps} (ih:∀nt s',jcj T nt s' < jcj T .block s→Tot (rec nt s') (AdvN T nt s')):Tot (jjh T len rec s) (AdvN T .block s):=by
  unfold jjh;dsimp only;have a:=jbz (T:=T) (len:=len) (k:=5) (by decide) [123] s;exact (ih .stmts _ (ji8 a (by decide))).thenP fun l s2 q=>Tot.some (AdvN.of ((a.thenA q.1).trans (jbz (by decide) _ _)))
theorem tot_stmts {s:Ps} (ih:∀nt s',jcj T nt s' < jcj T .stmts s→Tot (rec nt s') (AdvN T nt s')):Tot (jio T rec s) (AdvN T .stmts s):=by
  unfold jio;split
  · exact Tot.some (AdvN.lax rfl (Adv.refl s))
  · rename_i h;have hb:=nb_of h;exact (ih .stmt s (jfa hb (by decide))).thenP fun n s1 q=>(ih .stmts s1 (jbw ((q.2 rfl).lt hb))).thenP fun l s2 q2=>Tot.some (AdvN.lax rfl (q.1.trans q2.1))
theorem tot_stmt {s:Ps} (ih:∀nt s',jcj T nt s' < jcj T .stmt s→Tot (rec nt s') (AdvN T nt s')):Tot (jhq T len rec s) (AdvN T .stmt s):=by
  unfold jhq;dsimp only;split
  · rename_i h;exact Tot.pair (AdvN.of (jfs (by rcases h with h | h;rw[h];decide;rw[h.1];decide)))
  split
  · rename_i h;exact (ih .varD s (jfa (ji9 (by decide) h) (by decide))).mono fun s' q=>AdvN.of (q.2 rfl)
  split
  · rename_i h;exact (ih .block s (jfa (ji9 (by decide) h) (by decide))).mono fun s' q=>AdvN.of (q.2 rfl)
  split
  · rename_i h;have b:=jfj (by decide) h
    have t:Tot (if isP T 5 [59] (jbb s)=true then some (je8,jbb s) else thenP (rec (.expr 0) (jbb s)) fun n s2=>some (jdo [n],s2)) (Adv1 T s):=by
      split
      · exact Tot.some b
      · exact (ih (.expr 0) _ (jbw (b.lt (ji9 (by decide) h)))).thenP fun n s2 q=>Tot.some (b.thenA q.1)
    exact t.thenP fun l s2 q=>Tot.some (AdvN.of (q.trans (jbz (by decide) _ _)))
  split
  · rename_i h;have hb:=ji9 (by decide) h;have b:=jfj (by decide) h;refine (ih .cond _ (jbw (b.lt hb))).thenP fun c s2 q=>?_;have b2:=b.thenA q.1;refine (ih .block _ (jbw (b2.lt hb))).thenP fun a s3 q3=>?_;have b3:=b2.thenA q3.1
    have t:Tot (if isP T 2 jlc s3=true then thenP (rec .block (jbb s3)) fun b s5=>some (jdo [b],s5) else some (je8,s3)) (Adv T s3):=by
      split
      · rename_i h';have b4:=jfj (by decide) h';exact (ih .block _ (jbw ((b3.trans b4).lt hb))).thenP fun n s2 q=>Tot.some (b4.toAdv.trans q.1)
      · exact Tot.some (Adv.refl _)
    exact t.thenP fun l s2 q=>Tot.some (AdvN.of (b3.thenA q))
  split
  · rename_i h;have hb:=ji9 (by decide) h;have b:=jfj (by decide) h;refine (ih .cond _ (jbw (b.lt hb))).thenP fun c s2 q=>?_;have b2:=b.thenA q.1;exact (ih .block _ (jbw (b2.lt hb))).thenP fun a s3 q3=>Tot.some (AdvN.of (b2.thenA q3.1))
  · refine (ih (.expr 0) s (jii (by decide) (by decide))).thenP fun a s1 q=>?_;have b:=q.2 rfl;split
    · rename_i h;have b4:=jfj (by decide) h
      have hb:s.bad.isSome=false:=by
        cases hs:s.bad.isSome with
        | false=>rfl
        | true=>have:=b.stay hs;rw[this] at h;rw[is_bad (by decide) hs] at h;cases h
      exact (ih (.expr 0) _ (jbw ((b.trans b4).lt hb))).thenP fun n s2 q=>Tot.some (AdvN.of ((b.trans b4).thenA (q.1.trans (jbz (by decide) _ _).toAdv)))
    · exact Tot.some (AdvN.of (b.trans (jbz (by decide) _ _)))
theorem tot_cond {s:Ps} (ih:∀nt s',jcj T nt s' < jcj T .cond s→Tot (rec nt s') (AdvN T nt s')):Tot (jn5 T len rec s) (AdvN T .cond s):=by
  unfold jn5;have a:=jbz (T:=T) (len:=len) (k:=5) (by decide) [40] s;exact (ih (.expr 0) _ (ji8 a (by decide))).thenP fun l s2 q=>Tot.some (AdvN.of ((a.thenA q.1).trans (jbz (by decide) _ _)))
theorem tot_expr {lvl:Nat} {s:Ps} (ih:∀nt s',jcj T nt s' < jcj T (.expr lvl) s→Tot (rec nt s') (AdvN T nt s')):Tot (jl7 rec lvl s) (AdvN T (.expr lvl) s):=by
  unfold jl7;split
  · exact (ih .unary s (jii (by simp[rkB];omega) (by simp[rkG];omega))).mono fun s' q=>AdvN.of (q.2 rfl)
  · refine (ih (.expr (lvl+1)) s (jii (by simp[rkB];omega) (by simp[rkG];omega))).thenP fun n s1 q=>?_;have b:=q.2 rfl;exact (ih (.binRest lvl n) s1 (ji8 b (by simp[rkB];omega))).mono fun s' q=>AdvN.of (b.thenA q.1)
theorem tot_bin {lvl:Nat} {n:Nd} {s:Ps} (ih:∀nt s',jcj T nt s' < jcj T (.binRest lvl n) s→Tot (rec nt s') (AdvN T nt s')):Tot (bBin T rec lvl n s) (AdvN T (.binRest lvl n) s):=by
  unfold bBin;split
  · exact Tot.some (AdvN.lax rfl (Adv.refl s))
  · rename_i h;have hb:=nb_of h;obtain ⟨x,_,hx,_⟩:=op_in fun h'=>h (Or.inr h');have b:=jfj (by decide) hx;refine (ih (.expr (lvl+1)) _ (jbw (b.lt hb))).thenP fun n s1 q=>?_;have b2:=b.thenA q.1;exact (ih (.binRest lvl _) s1 (jbw (b2.lt hb))).mono fun s' q=>AdvN.lax rfl (b2.toAdv.trans q.1)
theorem tot_unary {s:Ps} (ih:∀nt s',jcj T nt s' < jcj T .unary s→Tot (rec nt s') (AdvN T nt s')):Tot (jhp T len rec s) (AdvN T .unary s):=by
  unfold jhp;split
  · rename_i h;(have hb:s.bad.isSome=false:=by rcases h with h | h<;>exact ji9 (by decide) h);have a:=jdq (T:=T) (len:=len) (k:=5) (by decide) s;exact (ih .unary _ (jbw (a.lt hb))).thenP fun n s2 q=>Tot.some (AdvN.of (a.thenA q.1))
  · refine (ih .primary s (jii (by decide) (by decide))).thenP fun n s1 q=>?_;have b:=q.2 rfl;exact (ih (.postRest n) s1 (ji8 b (by simp[rkB]))).mono fun s' q=>AdvN.of (b.thenA q.1)
theorem tot_post {n:Nd} {s:Ps} (ih:∀nt s',jcj T nt s' < jcj T (.postRest n) s→Tot (rec nt s') (AdvN T nt s')):Tot (jkb T len rec n s) (AdvN T (.postRest n) s):=by
  unfold jkb;dsimp only;split
  · exact Tot.some (AdvN.lax rfl (Adv.refl s))
  split
  · rename_i h;have a:=(jfj (by decide) h).trans (jdq (len:=len) (k:=1) (by decide) _);exact (ih (.postRest _) _ (jbw (a.lt (ji9 (by decide) h)))).mono fun s' q=>AdvN.lax rfl (a.toAdv.trans q.1)
  split
  · rename_i h;have hb:=ji9 (by decide) h;have a:=jfj (by decide) h;refine (ih .args _ (jbw (a.lt hb))).thenP fun n s1 q=>?_;have b:=a.thenA q.1;exact (ih (.postRest _) _ (jbw (b.lt hb))).mono fun s' q=>AdvN.lax rfl (b.toAdv.trans q.1)
  · exact Tot.some (AdvN.lax rfl (Adv.refl s))
theorem tot_args {s:Ps} (ih:∀nt s',jcj T nt s' < jcj T .args s→Tot (rec nt s') (AdvN T nt s')):Tot (jn6 T len rec s) (AdvN T .args s):=by
  unfold jn6;exact (ih (.argsL true) s (jii (by simp[rkB]) (by simp[rkG]))).thenP fun l s2 q=>Tot.some (AdvN.of (q.1.then1 (jbz (by decide) _ _)))
theorem tot_argsL {first:Bool} {s:Ps} (ih:∀nt s',jcj T nt s' < jcj T (.argsL first) s→Tot (rec nt s') (AdvN T nt s')):Tot (jh9 T len rec first s) (AdvN T (.argsL first) s):=by
  unfold jh9;dsimp only;split
  · exact Tot.some (AdvN.lax rfl (Adv.refl s))
  · rename_i h;have hb:=nb_of h
    have a:Adv T s (if first=true then s else jab T len 5 [44] s)∧jcj T (.expr 0) (if first=true then s else jab T len 5 [44] s)<jcj T (.argsL first) s:=by
      split
      · exact ⟨Adv.refl s,jfa hb (by simp[rkG])⟩
      · have:=jbz (T:=T) (len:=len) (k:=5) (by decide) [44] s;exact ⟨this.toAdv,jbw (this.lt hb)⟩
    obtain ⟨s1,hs1⟩:∃r,(if first=true then s else jab T len 5 [44] s)=r:=⟨_,rfl⟩;rw[hs1] at a ⊢
    have t:Tot (if jbi T s1=7 then some (jco T len false s1) else rec (.expr 0) s1) (Adv1 T s1):=by
      split
      · rename_i h;exact Tot.pair (jfs (by rw[h];decide))
      · exact (ih (.expr 0) _ a.2).mono fun s' q=>q.2 rfl
    refine t.thenP fun n s2 q=>?_;have b:=a.1.then1 q;exact (ih (.argsL false) _ (jbw (b.lt hb))).thenP fun l s3 q3=>Tot.some (AdvN.lax rfl (b.toAdv.trans q3.1))
theorem tot_primary {s:Ps} (ih:∀nt s',jcj T nt s' < jcj T .primary s→Tot (rec nt s') (AdvN T nt s')):Tot (jdv T len rec s) (AdvN T .primary s):=by
  unfold jdv;dsimp only;split
  · exact Tot.some (AdvN.of (jdq (by decide) _))
  split
  · exact Tot.some (AdvN.of (jdq (by decide) _))
  split
  · exact Tot.some (AdvN.of (jdq (by decide) _))
  split
  · rename_i h;exact Tot.pair (AdvN.of (jfs (by rw[h];decide)))
  split
  · rename_i h;have hb:=ji9 (by decide) h;have a:=((jfj (by decide) h).trans (name_adv (len:=len) _)).trans (jbz (len:=len) (k:=5) (by decide) [40] _);exact (ih .args _ (jbw (a.lt hb))).thenP fun l s2 q=>Tot.some (AdvN.of (a.thenA q.1))
  split
  · exact Tot.some (AdvN.of (jdq (by decide) _))
  · have a:=jbz (T:=T) (len:=len) (k:=5) (by decide) [40] s;split
    · exact Tot.some (AdvN.of a)
    · rename_i hnb
      have hb:s.bad.isSome=false:=by
        cases hs:s.bad.isSome with
        | false=>rfl
        | true=>have:=a.stay hs;rw[this] at hnb;exact absurd hs hnb
      exact (ih (.expr 0) _ (jbw (a.lt hb))).thenP fun l s2 q=>Tot.some (AdvN.of ((a.thenA q.1).trans (jbz (by decide) _ _)))
end
variable {T:List Tk} {len:Int}
theorem read_tot:∀(f:Nat) (nt:NT) (s:Ps),jcj T nt s<f→Tot (jaw T len f nt s) (AdvN T nt s):=by
  intro f
  induction f with
  | zero=>intro nt s h;omega
  | succ f ih =>
    intro nt s h;have ih':∀nt' s',jcj T nt' s' < jcj T nt s→Tot (jaw T len f nt' s') (AdvN T nt' s'):=fun nt' s' h'=>ih nt' s' (by omega);show Tot (jbo T len (jaw T len f) nt s) (AdvN T nt s)
    cases nt with
    | imports=>exact tot_imports ih'
    | decls=>exact tot_decls ih'
    | decl=>exact tot_decl ih'
    | classD=>exact tot_class ih'
    | ifaceD=>exact tot_iface ih'
    | members cls=>exact tot_members ih'
    | funcD blk=>exact tot_func ih'
    | params first=>exact tot_params ih'
    | varD=>exact tot_var ih'
    | types=>exact tot_types ih'
    | block=>exact tot_block ih'
    | stmts=>exact tot_stmts ih'
    | stmt=>exact tot_stmt ih'
    | cond=>exact tot_cond ih'
    | expr lvl=>exact tot_expr ih'
    | binRest lvl n=>exact tot_bin ih'
    | unary=>exact tot_unary ih'
    | postRest n=>exact tot_post ih'
    | args=>exact tot_args ih'
    | argsL first=>exact tot_argsL ih'
    | primary=>exact tot_primary ih'
theorem jep {f:Nat} {nt:NT} {s:Ps} {n:Nd} {s':Ps} (h:jaw T len f nt s=some (n,s')):AdvN T nt s s':=by
  obtain ⟨n',s'',h',q⟩:=read_tot (T:=T) (len:=len) (jcj T nt s+1) nt s (by omega);have:=read_one h h';injection this with _ e;rw[e];exact q
end
section
section
variable {T:List Tk} {len:Int}
theorem fail_no {s:Ps}:(jgg T len s).bad≠none:=by
  unfold jgg;split
  · rename_i h;intro h';rw[h'] at h;cases h
  · simp
end
end
section
abbrev jcn (x:List UInt8):Bool:=jb8 1 x
def jf5 (x:List UInt8):Bool :=
  let a:=x.takeWhile (· != 46)
  if a.length=x.length then jcn x else jcn a&&jcn (x.drop (a.length+1))
def opOk (x:List UInt8):Bool:=(jkl 0++jkl 1++jkl 2++jkl 3++jkl 4++jkl 5).contains x
inductive Wh where
  | expr | arg | typ | types | param | stmt | block | decl | member | sig | lst (w:Wh) (least:Nat) (most:Option Nat)
def Wh.many:Wh→Bool
  | .arg | .types | .param | .stmt | .member | .sig=>true
  | _=>false
def Wh.one:Wh→Bool
  | .param | .block | .decl=>false
  | _=>true
mutual
def jat (mt:Bool):Nd→Wh→Bool
  | .mk k x _ _ l,w =>
    match w with
    | .lst w least most=>k==24&&x==[]&&jcs mt l w&&decide (least≤l.length)&&(match most with | none=>true | some m=>decide (l.length≤m))
    | w =>
      if k=25∨k=26 then mt&&l.isEmpty&&jcn x&&(if k=26 then w.many else w.one)
      else match w with
        | .typ | .types=>k==8&&l.isEmpty&&jf5 x
        | .param=>k==7&&jcn x&&je1 mt l [.typ]
        | .block=>k==9&&x==[]&&jcs mt l .stmt
        | .stmt =>
          if k=6 then jcn x&&je1 mt l [.typ,.lst .expr 0 (some 1)]
          else x==[]&&(
            if k=9 then jcs mt l .stmt
            else if k=10 then decide (l.length≤1)&&jcs mt l .expr
            else if k=11 then je1 mt l [.expr,.block,.lst .block 0 (some 1)]
            else if k=12 then je1 mt l [.expr,.block]
            else if k=13 then je1 mt l [.expr,.expr]
            else if k=14 then (match l with | []=>false | n :: _=>n.kind != 25)&&je1 mt l [.expr]
            else false)
        | .decl | .member | .sig =>
          jcn x&&(
            if k=6 then (match w with | .sig=>false | _=>true)&&je1 mt l [.typ,.lst .expr 0 (some 1)]
            else if k=5 then (match w with | .sig=>je1 mt l [.lst .param 0 none,.lst .typ 0 (some 1),.lst .block 0 (some 0)] | _=>je1 mt l [.lst .param 0 none,.lst .typ 0 (some 1),.lst .block 1 (some 1)])
            else if k=3 then (match w with | .decl=>true | _=>false)&&je1 mt l [.lst .typ 0 (some 1),.lst .types 0 none,.lst .member 0 none]
            else if k=4 then (match w with | .decl=>true | _=>false)&&je1 mt l [.lst .types 0 none,.lst .sig 0 none]
            else false)
        | _ =>
          if k=15 then l.isEmpty&&jcn x
          else if k=16 then l.isEmpty&&jb8 3 x
          else if k=17 then l.isEmpty&&jb8 4 x
          else if k=18 then l.isEmpty&&jdu x
          else if k=19 then jcn x&&je1 mt l [.expr]
          else if k=20 then x==[]&&jic mt l
          else if k=21 then jf5 x&&jcs mt l .arg
          else if k=22 then (x==[33]||x==[45])&&je1 mt l [.expr]
          else if k=23 then opOk x&&je1 mt l [.expr,.expr]
          else false
def jcs (mt:Bool):List Nd→Wh→Bool
  | [],_=>true
  | n :: l,w=>jat mt n w&&jcs mt l w
def je1 (mt:Bool):List Nd→List Wh→Bool
  | [],[]=>true
  | n :: l,w :: ws=>jat mt n w&&je1 mt l ws
  | _,_=>false
def jic (mt:Bool):List Nd→Bool
  | []=>false
  | n :: l=>jat mt n .expr&&jcs mt l .arg
end
def jk9 (n:Nd):Bool:=n.kind==2&&n.kids.isEmpty&&jcn n.text
def rightM (n:Nd):Bool:=n.kind==1&&n.text==[]&&jcs false (n.kids.dropWhile jk9) .decl
theorem jdg (w:Wh):jcs false [] w=true:=by rw[jcs]
theorem je6 {n:Nd} {l:List Nd} {w:Wh}:jcs false (n :: l) w=(jat false n w&&jcs false l w):=by rw[jcs]
theorem jnv (n:Nd):jat false n .arg=jat false n .expr:=by
  obtain ⟨k,x,a,e,l⟩:=n;simp[jat]
theorem fit_kind {n:Nd} (h:jat false n .expr=true):(n.kind != 25)=true:=by
  obtain ⟨k,x,a,e,l⟩:=n;rw[bne_iff_ne];show k≠25;intro hk;simp[jat,hk] at h
end
section
section
variable (T:List Tk) (len:Int)
def rd (nt:NT) (s:Ps):Nd × Ps:=(jaw T len (jcj T nt s+1) nt s).getD (je8,s)
end
variable {T:List Tk} {len:Int}
theorem jg7 (nt:NT) (s:Ps):jaw T len (jcj T nt s+1) nt s=some (rd T len nt s):=by
  obtain ⟨n,s',h,_⟩:=read_tot (T:=T) (len:=len) (jcj T nt s+1) nt s (by omega);unfold rd;rw[h];try rfl
end
section
mutual
def jde:Nd→Nat
  | .mk _ _ _ _ l=>jd3 l+1
def jd3:List Nd→Nat
  | []=>0
  | n :: l=>max (jde n) (jd3 l)
end
def jf1:Nat→Nd→Option Int
  | 0,n=>some n.at_
  | k+1,n=>n.kids.findSome? (jf1 k)
theorem jlz {k:Int} {x:List UInt8} {a e:Int} {l:List Nd}:jde (.mk k x a e l)=jd3 l+1:=by rw[jde]
theorem depthL_le {k:Nat}:∀l:List Nd,jd3 l≤k↔∀n∈l,jde n≤k:=by
  intro l
  induction l with
  | nil=>simp[jd3]
  | cons n l ih =>
    rw[jd3];simp only[List.mem_cons,forall_eq_or_imp];rw[←ih];omega
theorem deep_none:∀(k:Nat) (n:Nd),jf1 k n=none↔jde n≤k:=by
  intro k
  induction k with
  | zero =>
    intro n;obtain ⟨q,x,a,e,l⟩:=n;rw[jf1,jlz];simp
  | succ k ih =>
    intro n;obtain ⟨q,x,a,e,l⟩:=n;rw[jf1,jlz];show List.findSome? (jf1 k) l=none↔_;rw[List.findSome?_eq_none_iff];simp only[ih];rw[←depthL_le];omega
def jm6 (T:List Tk) (len:Int) (r:Nd × Ps):Nd × Int × Int :=
  match (if r.2.i<T.length then jgg T len r.2 else r.2).bad with
  | some a=>(je8,a,11)
  | none=>match jf1 12 r.1 with
    | some a=>(je8,a,4)
    | none=>(r.1,0,0)
def modP (T:List Tk) (len:Int):Nd × Ps :=
  let a:=rd T len .imports ⟨0,none⟩
  let b:=rd T len .decls a.2
  (.mk 1 [] 0 len (a.1.kids++b.1.kids),b.2)
def jdh (d:List UInt8):Nd × Int × Int :=
  match jcx false d with
  | .error x=>(je8,(x.1:Int),x.2)
  | .ok T=>jm6 T (d.length:Int) (modP T (d.length:Int))
def whatN (what:Int):NT:=if what=1 then .expr 0 else if what=2 then .stmt else .decl
def jdx (what:Int) (d:List UInt8):Nd × Int × Int :=
  if what<1∨3<what then (je8,0,1)
  else match jcx true d with
    | .error x=>(je8,(x.1:Int),x.2)
    | .ok T=>jm6 T (d.length:Int) (rd T (d.length:Int) (whatN what) ⟨0,none⟩)
end
end Go.Proofs.YtonoklmobocikaaGreatDoor
