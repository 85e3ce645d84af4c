/- Lemmas. -/
import Derived.Test.YtonoklmobocikaaGreatDoorK65
set_option linter.unusedVariables false
set_option linter.unusedSimpArgs false
set_option maxRecDepth 20000
set_option maxHeartbeats 6400000
namespace Go.Proofs.YtonoklmobocikaaGreatDoor
section
def PieceE (T:List Tk) (m:Nd):Prop:=∃a b,a<b∧m.at_=atT T a∧m.en=jc2 T b∧Run (T.take b) (.n (.expr 0)) a m b
def PieceS (T:List Tk) (m:Nd):Prop:=∃a b,a<b∧m.at_=atT T a∧m.en=jc2 T b∧Run (T.take b) (.n .stmt) a m b
mutual
def allP (T:List Tk):Nd→Prop
  | .mk k x a e l=>(15≤k∧k≤23→PieceE T (.mk k x a e l))∧(9≤k∧k≤14→PieceS T (.mk k x a e l))∧jfm T l
def jfm (T:List Tk):List Nd→Prop
  | []=>True
  | n :: l=>allP T n∧jfm T l
end
section
variable {T:List Tk}
theorem jgs {k:Int} {x:List UInt8} {a e:Int} {l:List Nd}:allP T (.mk k x a e l)↔(15≤k∧k≤23→PieceE T (.mk k x a e l))∧(9≤k∧k≤14→PieceS T (.mk k x a e l))∧jfm T l:=by rw[allP]
theorem jc3:jfm T []:=by rw[jfm];trivial
theorem jct {n:Nd} {l:List Nd}:jfm T (n :: l)↔allP T n∧jfm T l:=by rw[jfm]
theorem jfg {n:Nd} (h:allP T n):jfm T [n]:=jct.2 ⟨h,jc3⟩
theorem jir {n m:Nd} (h:allP T n) (h':allP T m):jfm T [n,m]:=jct.2 ⟨h,jfg h'⟩
theorem jl9 {n m o:Nd} (h:allP T n) (h':allP T m) (h'':allP T o):jfm T [n,m,o]:=jct.2 ⟨h,jir h' h''⟩
theorem allP_kids {n:Nd} (h:allP T n):jfm T n.kids:=by
  obtain ⟨k,x,a,e,l⟩:=n;exact (jgs.1 h).2.2
theorem jfp {l:List Nd} {p:Int} (h:jfm T l):allP T (jbm l p):=jgs.2 ⟨fun h=>by omega,fun h=>by omega,h⟩
theorem jfw {k:Int} {x:List UInt8} {i j:Nat} {l:List Nd} (hk:k<9∨23<k) (h:jfm T l):allP T (nd T k x i l j):=jgs.2 ⟨fun h=>by omega,fun h=>by omega,h⟩
theorem end_is {b i:Nat} {k:Int} {x:List UInt8} (h:b≤i) (hk:k≠0):jce (T.take b) i k x=false:=by
  unfold jce;rw[tr_k0 (by omega),beq_eq_false_iff_ne.2 (Ne.symm hk)];try rfl
theorem end_op {b i lvl:Nat} (h:b≤i):jnj (T.take b) lvl i=[]:=by
  cases hq:jnj (T.take b) lvl i with
  | nil=>rfl
  | cons c l =>
    obtain ⟨x,_,h1,_⟩:=op_in (T:=T.take b) (s:=⟨i,none⟩) (show opP (T.take b) lvl ⟨i,none⟩≠[] from by rw[jby,hq];simp);have h1:jce (T.take b) i 5 x=true:=h1;rw[end_is h (by decide)] at h1;cases h1
theorem lift_expr {a b:Nat} {m:Nd}:∀lvl:Nat,Run (T.take b) (.n (.expr lvl)) a m b→Run (T.take b) (.n (.expr 0)) a m b:=by
  intro lvl
  induction lvl with
  | zero=>exact fun h=>h
  | succ lvl ih =>
    intro h;apply ih;by_cases hl:lvl<6
    · exact .expr hl h (.bin0 (end_op (Nat.le_refl _)))
    · cases h with
      | expr h' _ _=>omega
      | exprU _ hu=>exact .exprU (by omega) hu
theorem jkn {a b:Nat} {m:Nd} (h:Run (T.take b) (.n .unary) a m b):Run (T.take b) (.n (.expr 0)) a m b:=lift_expr 6 (.exprU (by omega) h)
theorem prim_not {T:List Tk} {i j:Nat} {n:Nd} (h:Run T (.n .primary) i n j):jce T i 5 [33]=false∧jce T i 5 [45]=false:=by
  have key:∀k,kAt T i=k→k≠5→jce T i 5 [33]=false∧jce T i 5 [45]=false:=fun k h hk=>⟨jd7 h _ _ hk,jd7 h _ _ hk⟩
  cases h with
  | leaf h=>rcases h with h | h | h<;>exact key _ h.1 (by decide)
  | primM h=>exact key _ h (by decide)
  | new1 h _ _ _ _=>exact key _ (jbj h).1 (by decide)
  | new2 h _ _ _ _ _=>exact key _ (jbj h).1 (by decide)
  | const _ h _=>exact key _ h (by decide)
  | paren h _ _=>exact ⟨by rw[jbd h];rfl,by rw[jbd h];rfl⟩
theorem lift_prim {a b:Nat} {m:Nd} (h:Run (T.take b) (.n .primary) a m b):Run (T.take b) (.n (.expr 0)) a m b :=
  jkn (.unary2 (prim_not h).1 (prim_not h).2 h (.post0 (end_is (Nat.le_refl _) (by decide)) (end_is (Nat.le_refl _) (by decide))))
theorem piece_prim {i j:Nat} {n:Nd} (h:Run T (.n .primary) i n j) (ha:n.at_=atT T i) (he:n.en=jc2 T j):PieceE T n:=by
  have:=jb1 h;simp only[jdp] at this;exact ⟨i,j,by omega,ha,he,lift_prim (jkv h (by simp only[jax];omega))⟩
theorem piece_stmt {i j:Nat} {n:Nd} (h:Run T (.n .stmt) i n j) (ha:n.at_=atT T i) (he:n.en=jc2 T j):PieceS T n:=by
  have:=jb1 h;simp only[jdp] at this;exact ⟨i,j,by omega,ha,he,jkv h (by simp only[jax];omega)⟩
theorem jm1 {k:Int} {x:List UInt8} {i j:Nat} {l:List Nd} (hk:15≤k∧k≤23) (h:Run T (.n .primary) i (nd T k x i l j) j) (hl:jfm T l):allP T (nd T k x i l j) :=
  jgs.2 ⟨fun _=>piece_prim h rfl rfl,fun h=>by omega,hl⟩
theorem jiq {k:Int} {x:List UInt8} {i j:Nat} {l:List Nd} (hk:9≤k∧k≤14) (h:Run T (.n .stmt) i (nd T k x i l j) j) (hl:jfm T l):allP T (nd T k x i l j) :=
  jgs.2 ⟨fun h=>by omega,fun _=>piece_stmt h rfl rfl,hl⟩
end
def EK:RN→Nd→Prop
  | .n (.binRest _ n),m | .n (.postRest n),m=>¬(9≤n.kind∧n.kind≤14)→¬(9≤m.kind∧m.kind≤14)
  | .n (.expr _),m | .n .unary,m | .n .primary,m=>¬(9≤m.kind∧m.kind≤14)
  | _,_=>True
theorem run_ek {T:List Tk} {r:RN} {i:Nat} {n:Nd} {j:Nat} (h:Run T r i n j):EK r n:=by
  induction h with
  | expr h0 h1 h2 i1 i2=>exact i2 i1
  | exprU h0 h1 i1=>exact i1
  | bin0 h=>exact fun h=>h
  | bin1 h0 h1 h2 i1 i2=>exact fun _=>i2 (fun h=>by have:(9:Int)≤23∧(23:Int)≤14:=h;omega)
  | unary1 h0 h1 i1=>exact fun h=>by have:(9:Int)≤22∧(22:Int)≤14:=h;omega
  | unary2 h0 h1 h2 h3 i2 i3=>exact i3 i2
  | post0 h0 h1=>exact fun h=>h
  | post1 h0 h1 h2 i2=>exact fun _=>i2 (fun h=>by have:(9:Int)≤19∧(19:Int)≤14:=h;omega)
  | post2 h0 h1 h2 i1 i2=>exact fun _=>i2 (fun h=>by have:(9:Int)≤20∧(20:Int)≤14:=h;omega)
  | @leaf i q h0=>exact fun h=>by have:(9:Int)≤q∧q≤14:=h;rcases h0 with h | h | h<;>omega
  | primM h0=>exact fun h=>by have:(9:Int)≤25∧(25:Int)≤14:=h;omega
  | new1 h0 h1 h2 h3 h4 i4=>exact fun h=>by have:(9:Int)≤21∧(21:Int)≤14:=h;omega
  | new2 h0 h1 h2 h3 h4 h5 i5=>exact fun h=>by have:(9:Int)≤21∧(21:Int)≤14:=h;omega
  | const h0 h1 h2=>exact fun h=>by have:(9:Int)≤18∧(18:Int)≤14:=h;omega
  | paren h0 h1 h2 i1=>exact i1
  | _=>trivial
theorem expr_kind {T:List Tk} {lvl i:Nat} {n:Nd} {j:Nat} (h:Run T (.n (.expr lvl)) i n j):¬(9≤n.kind∧n.kind≤14):=run_ek h
def PA (T:List Tk) (up rest:RN) (n:Nd) (i:Nat) (m:Nd):Prop :=
  ∀s,s<i→n.at_=atT T s→(∀J m' j',i≤J→Run (T.take J) rest i m' j'→Run (T.take J) up s m' j')→allP T n→allP T m∧m.at_=atT T s
def PQ (T:List Tk):RN→Nat→Nd→Prop
  | .n (.binRest lvl n),i,m=>PA T (.n (.expr lvl)) (.n (.binRest lvl n)) n i m
  | .n (.postRest n),i,m=>PA T (.n .unary) (.n (.postRest n)) n i m
  | .n .imports,_,n | .n .decls,_,n | .n (.members _),_,n | .n (.params _),_,n | .n .types,_,n | .n .stmts,_,n | .n .args,_,n | .n (.argsL _),_,n
  | .optTyp _ _,_,n | .optTypes _,_,n | .optInit,_,n | .optElse,_,n | .optExpr,_,n | .blk _,_,n=>jfm T n.kids
  | .n .cond,_,n=>allP T n
  | _,i,n=>allP T n∧n.at_=atT T i
theorem run_parts {T:List Tk} {r:RN} {i:Nat} {n:Nd} {j:Nat} (h:Run T r i n j):PQ T r i n:=by
  induction h with
  | @imp0 i h0  => exact (jc3:jfm T [])
  | @imp1 i j l h0 h1 h2 h3 i3=>exact jct.2 ⟨jfw (by omega) jc3,i3⟩
  | @decls0 i h0  => exact (jc3:jfm T [])
  | @decls1 i k j n l h0 h1 h2 i1 i2=>exact jct.2 ⟨i1.1,i2⟩
  | @declC i j n h0 h1 i1=>exact i1
  | @declI i j n h0 h1 h2 i2=>exact i2
  | @declF i j n h0 h1 h2 h3 i3=>exact i3
  | @declV i j n h0 h1 h2 h3 i3=>exact i3
  | @classD i k m q e b l h0 h1 h2 h3 h4 h5 h6 i2 i3 i5=>exact ⟨jfw (by omega) (jl9 (jfp i2) (jfp i3) (jfp i5)),rfl⟩
  | @ifaceD i m q b l h0 h1 h2 h3 h4 h5 i2 i4=>exact ⟨jfw (by omega) (jir (jfp i2) (jfp i4)),rfl⟩
  | @mem0 c i h0  => exact (jc3:jfm T [])
  | @mem1 c i j l h0 h1 h2 i2=>exact jct.2 ⟨jfw (by split<;>omega) jc3,i2⟩
  | @mem2 c i k j n l h0 h1 h2 i1 i2=>exact jct.2 ⟨i1.1,i2⟩
  | @mem3 i k j n l h0 h1 h2 h3 i2 i3=>exact jct.2 ⟨i2.1,i3⟩
  | @funcD b i k m j a e c h0 h1 h2 h3 h4 h5 h6 i3 i5 i6=>exact ⟨jfw (by omega) (jl9 (jfp i3) (jfp i5) (jfp i6)),rfl⟩
  | @blk1 i j n h0 i0=>exact jfg i0.1
  | @blk0 i h0  => exact (jc3:jfm T [])
  | @params0 f i h0  => exact (jc3:jfm T [])
  | @params1 i k j n l h0 h1 h2 i1 i2=>exact jct.2 ⟨i1.1,i2⟩
  | @params2 i k j n l h0 h1 h2 i1 i2=>exact jct.2 ⟨i1.1,i2⟩
  | @param0 i h0  => exact ⟨jfw (by omega) jc3,rfl⟩
  | @param1 i j t h0 h1 h2 i2=>exact ⟨jfw (by omega) (jfg i2.1),rfl⟩
  | @varD i k m t l h0 h1 h2 h3 h4 h5 i3 i4=>exact ⟨jfw (by omega) (jir i3.1 (jfp i4)),rfl⟩
  | @typM i h0  => exact ⟨jfw (by omega) jc3,rfl⟩
  | @typ1 i h0 h1  => exact ⟨jfw (by omega) jc3,rfl⟩
  | @typ2 i h0 h1 h2  => exact ⟨jfw (by omega) jc3,rfl⟩
  | @elem0 i h0  => exact ⟨jfw (by omega) jc3,rfl⟩
  | @elem1 i j n h0 h1 i1=>exact i1
  | @types0 i j n h0 h1 i0=>exact jfg i0.1
  | @types1 i k j n l h0 h1 h2 i0 i2=>exact jct.2 ⟨i0.1,i2⟩
  | @optTyp0 k x i h0 h1  => exact (jc3:jfm T [])
  | @optTyp1 k x i j n h0 h1 h2 i2=>exact jfg i2.1
  | @optTypes0 x i h0  => exact (jc3:jfm T [])
  | @optTypes1 x i j n h0 h1 i1=>exact i1
  | @optInit0 i h0  => exact (jc3:jfm T [])
  | @optInit1 i j n h0 h1 i1=>exact jfg i1.1
  | @block i j l h0 h1 h2 i1=>exact ⟨jiq (by omega) (.stmtB h0 (.block h0 h1 h2)) i1,rfl⟩
  | @stmts0 i h0  => exact (jc3:jfm T [])
  | @stmts1 i k j n l h0 h1 h2 i1 i2=>exact jct.2 ⟨i1.1,i2⟩
  | @stmtM i h0 h1  => exact ⟨jfw (by split<;>omega) jc3,rfl⟩
  | @stmtV i j n h0 h1 i1=>exact i1
  | @stmtB i j n h0 h1 i1=>exact i1
  | @stmtR i j l h0 h1 h2 i1=>exact ⟨jiq (by omega) (.stmtR h0 h1 h2) i1,rfl⟩
  | @stmtI i k m j c a b h0 h1 h2 h3 i1 i2 i3=>exact ⟨jiq (by omega) (.stmtI h0 h1 h2 h3) (jl9 i1 i2.1 (jfp i3)),rfl⟩
  | @stmtW i k j c a h0 h1 h2 i1 i2=>exact ⟨jiq (by omega) (.stmtW h0 h1 h2) (jir i1 i2.1),rfl⟩
  | @stmtA i k j a b h0 h1 h2 h3 h4 h5 h6 h7 h8 h9 i6 i8=>exact ⟨jiq (by omega) (.stmtA h0 h1 h2 h3 h4 h5 h6 h7 h8 h9) (jir i6.1 i8.1),rfl⟩
  | @stmtD i j a h0 h1 h2 h3 h4 h5 h6 h7 h8 i6=>exact ⟨jiq (by omega) (.stmtD h0 h1 h2 h3 h4 h5 h6 h7 h8) (jfg i6.1),rfl⟩
  | @optExpr0 i h0  => exact (jc3:jfm T [])
  | @optExpr1 i j n h0 h1 i1=>exact jfg i1.1
  | @optElse0 i h0  => exact (jc3:jfm T [])
  | @optElse1 i j n h0 h1 i1=>exact jfg i1.1
  | @cond i j n h0 h1 h2 i1=>exact i1.1
  | @expr lvl i k j n m h0 h1 h2 i1 i2=>exact i2 i (by have:=jb1 h1;simp only[jdp] at this;omega) i1.2 (fun J m2 j2 hJ hr=>.expr h0 (jkv h1 (by simp only[jax];omega)) hr) i1.1
  | @exprU lvl i j n h0 h1 i1=>exact i1
  | @bin0 lvl i n h0  => exact fun s hs ha hc hn=>⟨hn,ha⟩
  | @bin1 lvl i k j n b m h0 h1 h2 i1 i2 =>
      intro s hs ha hc hn;have hik:=jb1 h1;simp only[jdp] at hik
      have hc2:∀J m2 j2,k≤J→Run (T.take J) (.n (.binRest lvl (.mk 23 (jnj T lvl i) n.at_ (jc2 T k) [n,b]))) k m2 j2→Run (T.take J) (.n (.expr lvl)) s m2 j2:=fun J m2 j2 hJ hr =>
        hc J m2 j2 (by omega) (.bin1 (by rw[tr_op (by omega)];exact h0) (jkv h1 (by simp only[jax];omega)) (by rw[tr_op (by omega),jm5 (by omega)];exact hr))
      exact i2 s (by omega) ha hc2 (jgs.2 ⟨fun _=>⟨s,k,by omega,ha,rfl,lift_expr lvl (hc2 k _ k (Nat.le_refl _) (.bin0 (end_op (Nat.le_refl _))))⟩,fun h=>by omega,jir hn i1.1⟩)
  | @unary1 i j a h0 h1 i1 =>
      have hr:=jkv (J:=j) (Run.unary1 h0 h1) (by simp only[jax];omega);have:=jb1 h1;simp only[jdp] at this;exact ⟨jgs.2 ⟨fun _=>⟨i,j,by omega,rfl,rfl,jkn hr⟩,fun h=>by omega,jfg i1.1⟩,rfl⟩
  | @unary2 i k j n m h0 h1 h2 h3 i2 i3=>exact i3 i (by have:=jb1 h2;simp only[jdp] at this;omega) i2.2 (fun J m2 j2 hJ hr=>.unary2 (tr_no (by decide) h0) (tr_no (by decide) h1) (jkv h2 (by simp only[jax];omega)) hr) i2.1
  | @post0 i n h0 h1  => exact fun s hs ha hc hn=>⟨hn,ha⟩
  | @post1 i j n m h0 h1 h2 i2 =>
      intro s hs ha hc hn
      have hc2:∀J m2 j2,i+2≤J→Run (T.take J) (.n (.postRest (.mk 19 (xAt T (i+1)) n.at_ (jc2 T (i+2)) [n]))) (i+2) m2 j2→Run (T.take J) (.n .unary) s m2 j2:=fun J m2 j2 hJ hr =>
        hc J m2 j2 (by omega) (.post1 (by rw[tr_is (by omega)];exact h0) (by rw[tr_k (by omega)];exact h1) (by rw[tr_x (by omega),jm5 (by omega)];exact hr))
      exact i2 s (by omega) ha hc2 (jgs.2 ⟨fun _=>⟨s,i+2,by omega,ha,rfl,jkn (hc2 (i+2) _ (i+2) (Nat.le_refl _) (.post0 (end_is (Nat.le_refl _) (by decide)) (end_is (Nat.le_refl _) (by decide))))⟩,fun h=>by omega,jfg hn⟩)
  | @post2 i k j n a m h0 h1 h2 i1 i2 =>
      intro s hs ha hc hn;have hik:=jb1 h1;simp only[jdp] at hik
      have hc2:∀J m2 j2,k≤J→Run (T.take J) (.n (.postRest (.mk 20 [] n.at_ (jc2 T k) (n :: a.kids)))) k m2 j2→Run (T.take J) (.n .unary) s m2 j2:=fun J m2 j2 hJ hr =>
        hc J m2 j2 (by omega) (.post2 (by rw[tr_is (by omega)];exact h0) (jkv h1 (by simp only[jax];omega)) (by rw[jm5 (by omega)];exact hr))
      exact i2 s (by omega) ha hc2 (jgs.2 ⟨fun _=>⟨s,k,by omega,ha,rfl,jkn (hc2 k _ k (Nat.le_refl _) (.post0 (end_is (Nat.le_refl _) (by decide)) (end_is (Nat.le_refl _) (by decide))))⟩,fun h=>by omega,jct.2 ⟨hn,i1⟩⟩)
  | @args i j l h0 h1 i0=>exact i0
  | @argsL0 f i h0  => exact (jc3:jfm T [])
  | @argsL1 i k j n l h0 h1 h2 i1 i2=>exact jct.2 ⟨i1.1,i2⟩
  | @argsL2 i k j n l h0 h1 h2 i1 i2=>exact jct.2 ⟨i1.1,i2⟩
  | @arg0 i h0  => exact ⟨jfw (by omega) jc3,rfl⟩
  | @arg1 i j n h0 h1 i1=>exact i1
  | @leaf i q h0  => exact ⟨jm1 (by rcases h0 with h | h | h<;>omega) (.leaf h0) jc3,rfl⟩
  | @primM i h0  => exact ⟨jfw (by omega) jc3,rfl⟩
  | @new1 i j l h0 h1 h2 h3 h4 i4=>exact ⟨jm1 (by omega) (.new1 h0 h1 h2 h3 h4) i4,rfl⟩
  | @new2 i j l h0 h1 h2 h3 h4 h5 i5=>exact ⟨jm1 (by omega) (.new2 h0 h1 h2 h3 h4 h5) i5,rfl⟩
  | @const i h0 h1 h2  => exact ⟨jm1 (by omega) (.const h0 h1 h2) jc3,rfl⟩
  | @paren i j n h0 h1 h2 i1 =>
      have hr:=Run.paren h0 h1 h2;have hk:=allP_kids i1.1;refine ⟨jgs.2 ⟨fun _=>piece_prim hr rfl rfl,fun hh=>?_,hk⟩,rfl⟩;exact absurd hh (expr_kind h1)
end
section
theorem tw_cut {p:UInt8→Bool}:∀(l:List UInt8) (e:Nat),(l.take e).takeWhile p=(l.takeWhile p).take e:=by
  intro l
  induction l with
  | nil=>intro e;simp
  | cons c l ih =>
    intro e
    cases e with
    | zero=>simp
    | succ e =>
      rw[List.take_succ_cons,List.takeWhile_cons,List.takeWhile_cons];split
      · rw[List.take_succ_cons,ih]
      · rfl
theorem pre_true {r:List UInt8} (hr:r≠[]) (h:jgj false r=0):jcy true r=jcy false r:=by
  cases r with
  | nil=>exact absurd rfl hr
  | cons c r =>
    by_cases hd:dgB c=true
    · rw[jf9 (r:=c :: r) hd,jf9 (r:=c :: r) hd]
    · have hd:dgB c=false:=Bool.eq_false_iff.2 hd;by_cases hl:ltB c=true
      · rw[jdr (r:=c :: r) hl,jdr (r:=c :: r) hl]
      · have hl:ltB c=false:=Bool.eq_false_iff.2 hl;by_cases h34:c=34
        · subst h34;rw[jeq,jeq]
        · by_cases h36:c=36
          · subst h36;exact absurd h (by rw[err_sign];decide)
          · rw[jds hd hl h34 (fun h=>h36 h.2),jds hd hl h34 (fun h=>h36 h.2)]
theorem pre_cut {c:UInt8} {r:List UInt8} {e:Nat} (h:jgj false (c :: r)=0) (he:(jcy false (c :: r)).2.2≤e):jcy false ((c :: r).take e)=jcy false (c :: r):=by
  obtain ⟨h1,h2⟩:=jia (by simp) h;obtain ⟨e,rfl⟩:∃q,e=q+1:=⟨e - 1,by omega⟩;by_cases hd:dgB c=true
  · have e1:=jf9 (pat:=false) (r:=c :: r) hd;rw[e1] at he ⊢
    have e2:jho ((c :: r).take (e+1))=jho (c :: r):=by
      unfold jho at he ⊢;rw[tw_cut,List.take_of_length_le he]
    rw[jf9 (pat:=false) (r:=(c :: r).take (e+1)) hd,e2]
  · have hd:dgB c=false:=Bool.eq_false_iff.2 hd;by_cases hl:ltB c=true
    · have e1:=jdr (pat:=false) (r:=c :: r) hl;rw[e1] at he ⊢
      have e2:jbl ((c :: r).take (e+1))=jbl (c :: r):=by
        unfold jbl at he ⊢;rw[tw_cut,List.take_of_length_le he]
      rw[jdr (pat:=false) (r:=(c :: r).take (e+1)) hl,e2]
    · have hl:ltB c=false:=Bool.eq_false_iff.2 hl;by_cases h34:c=34
      · subst h34;rw[List.take_succ_cons,jeq,jeq];rw[jeq] at he h1
        cases hx:jf2 r with
        | none=>rw[hx] at h1;exact absurd h1 (by decide)
        | some x =>
          rw[hx] at he;have he:x.2+1≤e+1:=he;have:=jls _ r (Nat.le_refl _) x.1 x.2 hx ((r.take e).drop x.2);rw[show r.take x.2=(r.take e).take x.2 by rw[List.take_take,Nat.min_eq_left (by omega)],List.take_append_drop] at this;rw[this]
      · (have hno:¬(false=true∧c=36):=fun h=>by cases h.1);rw[List.take_succ_cons];rw[jds hd hl h34 hno] at he ⊢;rw[jds hd hl h34 hno];by_cases hm:2≤(c :: r).length∧jim ((c :: r).take 2)=true
        · rw[if_pos hm] at he ⊢;have he:2≤e+1:=he;obtain ⟨e,rfl⟩:∃q,e=q+1:=⟨e - 1,by omega⟩
          have ht:(c :: r.take (e+1)).take 2=(c :: r).take 2:=by
            rw[←List.take_succ_cons,List.take_take,Nat.min_eq_left (by omega)]
          have hlen:2≤(c :: r.take (e+1)).length:=by
            have:=hm.1;rw[List.length_cons] at this ⊢;rw[List.length_take];omega
          rw[ht,if_pos ⟨hlen,hm.2⟩]
        · rw[if_neg hm] at he ⊢;rw[if_neg]
          · simp
          · rintro ⟨g1,g2⟩;rw[List.length_cons,List.length_take] at g1
            have ht:(c :: r.take e).take 2=(c :: r).take 2:=by
              rw[←List.take_succ_cons,List.take_take,Nat.min_eq_left (by omega)]
            rw[ht] at g2;exact hm ⟨by rw[List.length_cons];omega,g2⟩
theorem sk_cut:∀(x:List UInt8) (m:Bool) (q:Nat),skB m x≠[]→x.length - (skB m x).length≤q→skB m (x.take q)=(skB m x).take (q - (x.length - (skB m x).length)):=by
  intro x
  induction x with
  | nil=>intro m q h;exact absurd (by cases m<;>rfl) h
  | cons c r ih =>
    intro m q h hq
    cases q with
    | zero =>
      rw[Nat.zero_sub,List.take_zero,List.take_zero];cases m<;>rfl
    | succ q =>
      rw[List.take_succ_cons]
      cases m with
      | false =>
        rw[skB.eq_2] at h hq ⊢;rw[skB.eq_2];by_cases hb:blB c=true
        · rw[if_pos hb] at h hq ⊢;rw[if_pos hb];have hl:=jf7 r false;rw[List.length_cons] at hq ⊢;rw[ih false q h (by omega)];congr 1;omega
        · rw[if_neg hb] at h hq ⊢;rw[if_neg hb];by_cases hc:c=47∧r.head?=some 47
          · rw[if_pos hc] at h hq ⊢;have hl:=jf7 r true;rw[List.length_cons] at hq ⊢
            have hgap:1≤r.length - (skB true r).length:=by
              cases r with
              | nil=>exact absurd hc.2 (by simp)
              | cons c' r' =>
                (have hc':c'=47:=by simpa using hc.2);subst hc';have hl':=jf7 r' true;rw[skB.eq_3,if_neg (by decide),List.length_cons];omega
            have hh:c=47∧(r.take q).head?=some 47:=by
              refine ⟨hc.1,?_⟩;obtain ⟨q,rfl⟩:∃z,q=z+1:=⟨q - 1,by omega⟩
              cases r with
              | nil=>exact hc.2
              | cons c' r'=>exact hc.2
            rw[if_pos hh,ih true q h (by omega)];congr 1;omega
          · rw[if_neg hc] at hq ⊢
            have hh:¬(c=47∧(r.take q).head?=some 47):=by
              rintro ⟨g1,g2⟩;refine hc ⟨g1,?_⟩
              cases r with
              | nil=>simp at g2
              | cons c' r' =>
                cases q with
                | zero=>simp at g2
                | succ q=>simpa using g2
            rw[if_neg hh,Nat.sub_self,Nat.sub_zero,List.take_succ_cons]
      | true =>
        rw[skB.eq_3] at h hq ⊢;rw[skB.eq_3];by_cases hb:c=10
        · rw[if_pos hb] at h hq ⊢;rw[if_pos hb];have hl:=jf7 r false;rw[List.length_cons] at hq ⊢;rw[ih false q h (by omega)];congr 1;omega
        · rw[if_neg hb] at h hq ⊢;rw[if_neg hb];have hl:=jf7 r true;rw[List.length_cons] at hq ⊢;rw[ih true q h (by omega)];congr 1;omega
end
section
theorem seg_pre:∀(k:Nat) (D n:Nat) (r:List UInt8) (l:List Tk) (b:Nat),r.length≤D→jea k false D n r=.ok l→b<l.length →
    ∃e:Nat,e≤r.length∧enT l b=((D - r.length+e:Nat):Int)∧∀k' D' n',(r.take e).length<k'→n'+b<600→∃l',jea k' true D' n' (r.take e)=.ok l'∧ktS l'=ktS (l.take (b+1)):=by
  intro k
  induction k with
  | zero=>intro D n r l b hD h hb;injection h with h;subst h;simp at hb
  | succ k ih =>
    intro D n r l b hD h hb
    cases r with
    | nil=>rw[jez] at h;injection h with h;subst h;simp at hb
    | cons c r =>
      obtain ⟨he,hn,m,hm,rfl⟩:=jjr h;obtain ⟨h1,h2⟩:=jia (by simp) he;obtain ⟨P,hP⟩:=jx (jcy false (c :: r));(have heP:jcd P.1 P.2.1=0:=by rw[←hP];exact he);rw[hP] at hm h1 h2;rw[List.length_cons] at hD h2;have hrest:=jf7 ((c :: r).drop P.2.2) false;rw[List.length_drop,List.length_cons] at hrest
      have one:∀e,P.2.2≤e→e≤r.length+1→∀k' D' n',((c :: r).take e).length<k'+1→n' < 600→∀l'',jea k' true D' (n'+1) (skS (((c :: r).drop P.2.2).take (e - P.2.2)))=.ok l'' →
          ∃l',jea (k'+1) true D' n' ((c :: r).take e)=.ok l'∧ktS l'=(P.1,P.2.1) :: ktS l'':=by
        intro e hpe hel k' D' n' hk hn' l'' hl;obtain ⟨e,rfl⟩:∃q,e=q+1:=⟨e - 1,by omega⟩;have hc:=pre_cut (e:=e+1) he (by rw[hP];exact hpe);rw[hP] at hc;rw[List.take_succ_cons] at hc ⊢;(have h0:jgj false (c :: r.take e)=0:=by unfold jgj;rw[hc];exact heP);have ht:=pre_true (by simp) h0;rw[hc] at ht;(have h0':jgj true (c :: r.take e)=0:=by unfold jgj;rw[ht];exact heP);rw[ji4 h0' hn',ht];rw[show (c :: r.take e).drop P.2.2=((c :: r).drop P.2.2).take (e+1 - P.2.2) by rw[←List.take_succ_cons,List.drop_take]];rw[hl];exact ⟨_,rfl,rfl⟩
      cases b with
      | zero =>
        refine ⟨P.2.2,by rw[List.length_cons];exact h2,by rw[hP,List.length_cons];rfl,fun k' D' n' hk hn'=>?_⟩;obtain ⟨k',rfl⟩:∃q,k'=q+1:=⟨k' - 1,by omega⟩;obtain ⟨l',g1,g2⟩:=one P.2.2 (Nat.le_refl _) h2 k' D' n' hk (by omega) [] (by rw[Nat.sub_self,List.take_zero];exact jez _ _ _ _);refine ⟨l',g1,?_⟩;rw[g2,hP];try rfl
      | succ b =>
        simp only[List.length_cons] at hb;obtain ⟨R,hR⟩:=jx (skS ((c :: r).drop P.2.2));rw[hR] at hm;have hrest:R.length≤r.length+1 - P.2.2:=by rw[←hR];exact hrest
        have hRne:R≠[]:=by
          intro h0;subst h0;rw[jez] at hm;injection hm with hm;subst hm;simp at hb
        obtain ⟨e,g1,g2,g3⟩:=ih D (n+1) R m b (by omega) hm (by omega);refine ⟨r.length+1 - R.length+e,by rw[List.length_cons];omega,?_,fun k' D' n' hk hn'=>?_⟩
        · show enT m b=_;rw[g2,List.length_cons];congr 1;omega
        · obtain ⟨k',rfl⟩:∃q,k'=q+1:=⟨k' - 1,by omega⟩
          have hsk:=sk_cut ((c :: r).drop P.2.2) false (r.length+1 - R.length+e - P.2.2) (by rw[show skB false ((c :: r).drop P.2.2)=R from hR];exact hRne) (by
            rw[show skB false ((c :: r).drop P.2.2)=R from hR,List.length_drop,List.length_cons];omega)
          rw[show skB false ((c :: r).drop P.2.2)=R from hR,List.length_drop,List.length_cons,show r.length+1 - R.length+e - P.2.2 - (r.length+1 - P.2.2 - R.length)=e by omega] at hsk;rw[List.length_take,List.length_cons] at hk;obtain ⟨l'',g4,g5⟩:=g3 k' D' (n'+1) (by rw[List.length_take];omega) (by omega)
          obtain ⟨l',g6,g7⟩:=one (r.length+1 - R.length+e) (by omega) (by omega) k' D' n' (by rw[List.length_take,List.length_cons];omega) (by omega) l'' (by
            rw[show skS (((c :: r).drop P.2.2).take (r.length+1 - R.length+e - P.2.2))=R.take e from hsk];exact g4)
          refine ⟨l',g6,?_⟩;rw[g7,g5,hP];try rfl
theorem seg_suf:∀(k:Nat) (n:Nat) (d r:List UInt8) (l:List Tk) (a:Nat),r.length≤d.length→d.drop (d.length - r.length)=r→Bare r→jea k false d.length n r=.ok l→a<l.length →
    ∃(k' n':Nat) (r':List UInt8),r'.length≤d.length∧d.drop (d.length - r'.length)=r'∧Bare r'∧jea k' false d.length n' r'=.ok (l.drop a)∧atT l a=((d.length - r'.length:Nat):Int):=by
  intro k
  induction k with
  | zero=>intro n d r l a hD hd hb h ha;injection h with h;subst h;simp at ha
  | succ k ih =>
    intro n d r l a hD hd hb h ha
    cases a with
    | zero =>
      cases r with
      | nil=>rw[jez] at h;injection h with h;subst h;simp at ha
      | cons c r =>
        refine ⟨k+1,n,c :: r,hD,hd,hb,h,?_⟩;obtain ⟨he,hn,m,hm,rfl⟩:=jjr h;rfl
    | succ a =>
      cases r with
      | nil=>rw[jez] at h;injection h with h;subst h;simp at ha
      | cons c r =>
        obtain ⟨he,hn,m,hm,rfl⟩:=jjr h;obtain ⟨h1,h2⟩:=jia (by simp) he;obtain ⟨p,hp⟩:=jx ((jcy false (c :: r)).2.2);rw[hp] at hm h1 h2;obtain ⟨g,hg,_⟩:=skB_gap ((c :: r).drop p) false;have hlen:=congrArg List.length hg;rw[List.length_drop,List.length_append] at hlen;simp only[List.length_cons] at hlen hD h2 ha;obtain ⟨R,hR⟩:=jx (skB false ((c :: r).drop p));(have hm:jea k false d.length (n+1) R=.ok m:=by rw[←hR];exact hm);(have hbR:Bare R:=by rw[←hR];exact jfr _ _);rw[hR] at hg hlen
        have hdR:d.drop (d.length - R.length)=R:=by
          rw[show d.length - R.length=(d.length - (c :: r).length)+(p+g.length) by rw[List.length_cons];omega,←List.drop_drop,hd,←List.drop_drop,hg,List.drop_append,List.drop_length,Nat.sub_self,List.drop_zero,List.nil_append]
        obtain ⟨k',n',r',q1,q2,q3,q4,q5⟩:=ih (n+1) d R m a (by omega) hdR hbR hm (by omega);exact ⟨k',n',r',q1,q2,q3,q4,q5⟩
theorem seg_scan {d:List UInt8} {T:List Tk} (h:jcx false d=.ok T) {a b:Nat} (hab:a<b) (hb:b≤T.length) :
    ∃A E:Nat,atT T a=(A:Int)∧jc2 T b=(E:Int)∧A≤E∧E≤d.length∧∃T',jcx true ((d.drop A).take (E - A))=.ok T'∧ktS T'=ktS ((T.drop a).take (b - a)):=by
  obtain ⟨_,hl6⟩:=(jc0 false d).1 T h;unfold jcx at h;have hl:=jf7 d false;obtain ⟨g,hg,_⟩:=skB_gap d false
  have hdr:d.drop (d.length - (skB false d).length)=skB false d:=by
    have hlen:=congrArg List.length hg;rw[List.length_append] at hlen;(have:d.length - (skB false d).length=g.length:=by omega);rw[this]
    conv=>lhs;rw[hg]
    rw[List.drop_append,List.drop_length,Nat.sub_self,List.drop_zero,List.nil_append]
  obtain ⟨k',n',r',q1,q2,q3,q4,q5⟩:=seg_suf _ 0 d (skS d) T a hl hdr (jfr _ _) h (by omega);obtain ⟨e,g1,g2,g3⟩:=seg_pre k' d.length n' r' (T.drop a) (b - a - 1) q1 q4 (by rw[List.length_drop];omega);refine ⟨d.length - r'.length,d.length - r'.length+e,q5,?_,by omega,by omega,?_⟩
  · rw[←g2];unfold jc2 enT;rw[if_neg (by omega),List.getElem?_drop,show a+(b - a - 1)=b - 1 by omega]
  · rw[q2,show d.length - r'.length+e - (d.length - r'.length)=e by omega];obtain ⟨l',g4,g5⟩:=g3 ((r'.take e).length+1) (r'.take e).length 0 (by omega) (by omega);refine ⟨l',?_,?_⟩
    · unfold jcx;rw[(q3.take e).sk];exact g4
    · rw[g5,show b - a - 1+1=b - a by omega]
theorem simT_seg {T T':List Tk} {a b:Nat} (hab:a<b) (h:ktS T'=ktS ((T.drop a).take (b - a))):SimT (T.take b) T' a:=by
  intro i;have:=congrArg (fun l=>l[i]?) h;simp only[ktS,List.getElem?_map] at this;rw[this];by_cases hi:i<b - a
  · rw[List.getElem?_take,if_pos (by omega),List.getElem?_take,if_pos hi,List.getElem?_drop,Nat.add_comm]
  · rw[List.getElem?_take,if_neg (by omega),List.getElem?_take,if_neg hi]
theorem piece_frag {d:List UInt8} {T:List Tk} (h:jcx false d=.ok T) {m:Nd} (hd:jde m≤12) {what:Int} (hw:what=1∨what=2) {a b:Nat} (hab:a<b) (hb:b≤T.length)
    (ha:m.at_=atT T a) (he:m.en=jc2 T b) (hr:Run (T.take b) (.n (whatN what)) a m b) :
    ∃A E:Nat,m.at_=(A:Int)∧m.en=(E:Int)∧A≤E∧E≤d.length∧∃m',jdx what ((d.drop A).take (E - A))=(m',0,0)∧jc8 m'=jc8 m:=by
  obtain ⟨A,E,h1,h2,h3,h4,T',h5,h6⟩:=seg_scan h hab hb;refine ⟨A,E,ha.trans h1,he.trans h2,h3,h4,?_⟩;have hT:=simT_seg hab h6;obtain ⟨len,hlen⟩:∃len:Int,((((d.drop A).take (E - A)).length:Nat):Int)=len:=⟨_,rfl⟩;have hrd:rd (T.take b) len (whatN what) ⟨a,none⟩=(m,⟨b,none⟩):=rd_run hr;obtain ⟨g1,g2⟩:=rd_sim (len:=len) (len':=len) hT (SimN.same (whatN what)) (s:=⟨a,none⟩) (s':=⟨0,none⟩) ⟨by simp,rfl⟩;rw[hrd] at g1 g2;obtain ⟨m',g3,g4⟩:=top_sim (len:=len) (len':=len) hT (r:=(m,⟨b,none⟩)) g1 g2 (top_of (by rw[List.length_take];omega) hd);refine ⟨m',?_,g4⟩;unfold jdx;rw[if_neg (by omega),h5,hlen];exact g3
end
section
theorem allPL_app {T:List Tk}:∀l r:List Nd,jfm T l→jfm T r→jfm T (l++r):=by
  intro l r
  induction l with
  | nil=>intro _ h;exact h
  | cons n l ih=>intro h h';rw[jct] at h;rw[List.cons_append,jct];exact ⟨h.1,ih h.2 h'⟩
mutual
theorem all_nodes {T:List Tk}:∀(n m:Nd),allP T n→m∈jca n→allP T m∧jde m≤jde n
  | .mk k x a e l,m,h,hm=>by
    rw[jca] at hm
    rcases List.mem_cons.1 hm with rfl | hm
    · exact ⟨h,Nat.le_refl _⟩
    · have:=all_nodesL l m (jgs.1 h).2.2 hm
      exact ⟨this.1,by rw[jlz];omega⟩
theorem all_nodesL {T:List Tk}:∀(l:List Nd) (m:Nd),jfm T l→m∈jc7 l→allP T m∧jde m≤jd3 l
  | [],m,_,hm=>by rw[jc7] at hm;simp at hm
  | n :: l,m,h,hm=>by
    rw[jc7] at hm
    rw[jct] at h
    rw[jd3]
    rcases List.mem_append.1 hm with hm | hm
    · have:=all_nodes n m h.1 hm
      exact ⟨this.1,by omega⟩
    · have:=all_nodesL l m h.2 hm
      exact ⟨this.1,by omega⟩
end
theorem ord_take {T:List Tk} (h:OrdT T) (J:Nat):OrdT (T.take J):=by
  intro i hi;rw[List.length_take] at hi;(have h1:i<J:=by omega);obtain ⟨g1,g2⟩:=h i (by omega);rw[jm5 (by omega),tr_at h1];refine ⟨g1,?_⟩;unfold enT at g2 ⊢;rw[tr_get h1];exact g2
theorem module_pieces {d:List UInt8} {n:Nd} {p:Int} (h:jdh d=(n,p,0)) {m:Nd} (hm:m∈jca n) {what:Int} (hw:(what=1∧15≤m.kind∧m.kind≤23)∨(what=2∧9≤m.kind∧m.kind≤14)) :
    ∃A E:Nat,m.at_=(A:Int)∧m.en=(E:Int)∧A≤E∧E≤d.length∧∃m',jdx what ((d.drop A).take (E - A))=(m',0,0)∧jc8 m'=jc8 m:=by
  obtain ⟨T,hs,x,y,k,j,h1,h2,h3,rfl,rfl,h5⟩:=jlr h;have ho:=(jni hs).1
  have hall:allP T (.mk 1 [] 0 (d.length:Int) (x.kids++y.kids)) :=
    jgs.2 ⟨fun h=>by omega,fun h=>by omega,allPL_app _ _ (run_parts h1) (run_parts h2)⟩
  obtain ⟨g1,g2⟩:=all_nodes _ m hall hm;obtain ⟨q,c,a,e,l⟩:=m;obtain ⟨g3,g4,_⟩:=jgs.1 g1;rcases hw with ⟨rfl,hk⟩ | ⟨rfl,hk⟩
  · obtain ⟨s,b,f1,f2,f3,f4⟩:=g3 hk;have hq:QO (T.take b) s (.mk q c a e l) b:=jix (ord_take ho b) f4;have:=hq.2.1;rw[List.length_take] at this;exact piece_frag hs (by omega) (Or.inl rfl) f1 (by omega) f2 f3 f4
  · obtain ⟨s,b,f1,f2,f3,f4⟩:=g4 hk;have hq:QO (T.take b) s (.mk q c a e l) b:=jix (ord_take ho b) f4;have:=hq.2.1;rw[List.length_take] at this;exact piece_frag hs (by omega) (Or.inr rfl) f1 (by omega) f2 f3 f4
end
end Go.Proofs.YtonoklmobocikaaGreatDoor
