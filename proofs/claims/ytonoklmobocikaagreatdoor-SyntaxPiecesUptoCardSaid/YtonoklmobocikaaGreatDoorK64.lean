/- Lemmas. -/
import Derived.Test.YtonoklmobocikaaGreatDoorK50
set_option linter.unusedVariables false
set_option linter.unusedSimpArgs false
set_option maxRecDepth 20000
set_option maxHeartbeats 6400000
namespace Go.Proofs.YtonoklmobocikaaGreatDoor
section
section
variable {T:List Tk} {len:Int}
theorem jbe (i:Nat):txtP T ⟨i,none⟩=xAt T i:=rfl
theorem jby (lvl i:Nat):opP T lvl ⟨i,none⟩=jnj T lvl i:=rfl
end
end
section
def jdp:RN→Nat
  | .n .imports | .n .decls | .n (.members _) | .n (.params _) | .n .stmts | .n (.argsL _) | .n (.binRest _ _) | .n (.postRest _) | .optTyp _ _ | .optTypes _ | .optInit | .optElse | .optExpr=>0
  | _=>1
def jax:RN→Nat
  | .n (.members _) | .n (.params _) | .n .stmts | .n (.argsL _) | .optExpr=>1
  | _=>0
theorem jb1 {T:List Tk} {r:RN} {i:Nat} {n:Nd} {j:Nat} (h:Run T r i n j):i+jdp r≤j:=by
  induction h<;>simp only[jdp] at *<;>omega
section
variable {T:List Tk} {J:Nat}
theorem tr_get {i:Nat} (h:i<J):(T.take J)[i]?=T[i]?:=by rw[List.getElem?_take,if_pos h]
theorem tr_k {i:Nat} (h:i<J):kAt (T.take J) i=kAt T i:=by unfold kAt;rw[tr_get h]
theorem tr_x {i:Nat} (h:i<J):xAt (T.take J) i=xAt T i:=by unfold xAt;rw[tr_get h]
theorem tr_at {i:Nat} (h:i<J):atT (T.take J) i=atT T i:=by unfold atT;rw[tr_get h]
theorem jm5 {i:Nat} (h:i≤J):jc2 (T.take J) i=jc2 T i:=by
  unfold jc2;split
  · rfl
  · unfold enT;rw[tr_get (by omega)]
theorem tr_is {i:Nat} {k:Int} {x:List UInt8} (h:i<J):jce (T.take J) i k x=jce T i k x:=by unfold jce;rw[tr_k h,tr_x h]
theorem tr_k0 {i:Nat} (h:¬i<J):kAt (T.take J) i=0:=by
  unfold kAt;rw[List.getElem?_take,if_neg h]
theorem tr_no {i:Nat} {k:Int} {x:List UInt8} (hk:k≠0) (h:jce T i k x=false):jce (T.take J) i k x=false:=by
  by_cases hi:i<J
  · rw[tr_is hi];exact h
  · unfold jce;rw[tr_k0 hi,beq_eq_false_iff_ne.2 (Ne.symm hk)];try rfl
theorem tr_kno {i:Nat} {k:Int} (hk:k≠0) (h:¬kAt T i=k):¬kAt (T.take J) i=k:=by
  by_cases hi:i<J
  · rw[tr_k hi];exact h
  · rw[tr_k0 hi];exact Ne.symm hk
theorem tr_op {lvl i:Nat} (h:i<J):jnj (T.take J) lvl i=jnj T lvl i:=by
  unfold jnj;congr 1;funext o x;rw[tr_is h]
theorem tr_op0 {lvl i:Nat} (h:jnj T lvl i=[]):jnj (T.take J) lvl i=[]:=by
  by_cases hi:i<J
  · rw[tr_op hi];exact h
  · cases hq:jnj (T.take J) lvl i with
    | nil=>rfl
    | cons c l =>
      obtain ⟨x,_,h1,_⟩:=op_in (T:=T.take J) (s:=⟨i,none⟩) (show opP (T.take J) lvl ⟨i,none⟩≠[] from by rw[jby,hq];simp);exact absurd (jbj h1).1 (by rw[tr_k0 hi];decide)
theorem tr_semi {i:Nat} (h:¬(kAt T i=7∨(kAt T i=6∧jlh T i=true))):¬(kAt (T.take J) i=7∨(kAt (T.take J) i=6∧jlh (T.take J) i=true)):=by
  by_cases hi:i<J
  · rw[tr_k hi];intro hh;refine h (hh.imp id fun hh=>⟨hh.1,?_⟩);by_cases hi2:i+1<J
    · have:=hh.2;unfold jlh at this ⊢;rw[tr_is hi2] at this;exact this
    · exact absurd (jbj hh.2).1 (by rw[tr_k0 hi2];decide)
  · rw[tr_k0 hi];rintro (h | h)
    · cases h
    · cases h.1
theorem tr_nd {q:Int} {x:List UInt8} {i j:Nat} {l:List Nd} (h:i<J) (hj:j≤J):nd (T.take J) q x i l j=nd T q x i l j:=by unfold nd;rw[tr_at h,jm5 hj]
end
theorem jkv {T:List Tk} {J:Nat} {r:RN} {i:Nat} {n:Nd} {j:Nat} (h:Run T r i n j):j+jax r≤J→Run (T.take J) r i n j:=by
  obtain ⟨T',hT'⟩:=jx (T.take J);have c1:=fun i (h:i<J)=>tr_k (T:=T) h;have c2:=fun i (h:i<J)=>tr_x (T:=T) h;have c3:=fun i (h:i<J)=>tr_at (T:=T) h;have c4:=fun i (h:i≤J)=>jm5 (T:=T) h;have c5:=fun i (k:Int) (x:List UInt8) (h:i<J)=>tr_is (T:=T) (k:=k) (x:=x) h;have c6:=fun i (k:Int) (x:List UInt8) (hk:k≠0) (h:jce T i k x=false)=>tr_no (T:=T) (J:=J) hk h;have c7:=fun i (k:Int) (hk:k≠0) (h:¬kAt T i=k)=>tr_kno (T:=T) (J:=J) hk h;have c8:=fun lvl i (h:i<J)=>tr_op (T:=T) (lvl:=lvl) h;have c9:=fun lvl i (h:jnj T lvl i=[])=>tr_op0 (T:=T) (J:=J) h;have c10:=fun i h=>tr_semi (T:=T) (J:=J) (i:=i) h;have c11:=fun (q:Int) (x:List UInt8) (i j:Nat) (l:List Nd) (h:i<J) (hj:j≤J)=>tr_nd (T:=T) (q:=q) (x:=x) (l:=l) h hj;(have c12:T'.length=min J T.length:=by rw[←hT',List.length_take]);rw[hT'] at *
  induction h with
  | @imp0 i h0  =>
    intro hJ;simp only[jax] at hJ;have r:=Run.imp0 (T:=T') (i:=i) (c6 _ _ _ (by first | assumption | decide) h0);simpa (disch:=omega) only[c1,c2,c3,c4,c8,c11] using r
  | @imp1 i j l h0 h1 h2 h3 i3 =>
    intro hJ;simp only[jax] at hJ;have b3:=jb1 h3;simp only[jdp] at b3;have r:=Run.imp1 (T:=T') (i:=i) (j:=j) (l:=l) ((c5 _ _ _ (by omega)).trans h0) ((c1 _ (by omega)).trans h1) ((c5 _ _ _ (by omega)).trans h2) (i3 (by simp only[jax];omega));simpa (disch:=omega) only[c1,c2,c3,c4,c8,c11] using r
  | @decls0 i h0  =>
    intro hJ;simp only[jax] at hJ;have r:=Run.decls0 (T:=T') (i:=i) (by omega);simpa (disch:=omega) only[c1,c2,c3,c4,c8,c11] using r
  | @decls1 i k j n l h0 h1 h2 i1 i2 =>
    intro hJ;simp only[jax] at hJ;have b1:=jb1 h1;simp only[jdp] at b1;have b2:=jb1 h2;simp only[jdp] at b2;have r:=Run.decls1 (T:=T') (i:=i) (k:=k) (j:=j) (n:=n) (l:=l) (by omega) (i1 (by simp only[jax];omega)) (i2 (by simp only[jax];omega));simpa (disch:=omega) only[c1,c2,c3,c4,c8,c11] using r
  | @declC i j n h0 h1 i1 =>
    intro hJ;simp only[jax] at hJ;have b1:=jb1 h1;simp only[jdp] at b1;have r:=Run.declC (T:=T') (i:=i) (j:=j) (n:=n) ((c5 _ _ _ (by omega)).trans h0) (i1 (by simp only[jax];omega));simpa (disch:=omega) only[c1,c2,c3,c4,c8,c11] using r
  | @declI i j n h0 h1 h2 i2 =>
    intro hJ;simp only[jax] at hJ;have b2:=jb1 h2;simp only[jdp] at b2;have r:=Run.declI (T:=T') (i:=i) (j:=j) (n:=n) (c6 _ _ _ (by first | assumption | decide) h0) ((c5 _ _ _ (by omega)).trans h1) (i2 (by simp only[jax];omega));simpa (disch:=omega) only[c1,c2,c3,c4,c8,c11] using r
  | @declF i j n h0 h1 h2 h3 i3 =>
    intro hJ;simp only[jax] at hJ;have b3:=jb1 h3;simp only[jdp] at b3;have r:=Run.declF (T:=T') (i:=i) (j:=j) (n:=n) (c6 _ _ _ (by first | assumption | decide) h0) (c6 _ _ _ (by first | assumption | decide) h1) ((c5 _ _ _ (by omega)).trans h2) (i3 (by simp only[jax];omega));simpa (disch:=omega) only[c1,c2,c3,c4,c8,c11] using r
  | @declV i j n h0 h1 h2 h3 i3 =>
    intro hJ;simp only[jax] at hJ;have b3:=jb1 h3;simp only[jdp] at b3;have r:=Run.declV (T:=T') (i:=i) (j:=j) (n:=n) (c6 _ _ _ (by first | assumption | decide) h0) (c6 _ _ _ (by first | assumption | decide) h1) (c6 _ _ _ (by first | assumption | decide) h2) (i3 (by simp only[jax];omega));simpa (disch:=omega) only[c1,c2,c3,c4,c8,c11] using r
  | @classD i k m q e b l h0 h1 h2 h3 h4 h5 h6 i2 i3 i5 =>
    intro hJ;simp only[jax] at hJ;have b2:=jb1 h2;simp only[jdp] at b2;have b3:=jb1 h3;simp only[jdp] at b3;have b5:=jb1 h5;simp only[jdp] at b5;have r:=Run.classD (T:=T') (i:=i) (k:=k) (m:=m) (q:=q) (e:=e) (b:=b) (l:=l) ((c5 _ _ _ (by omega)).trans h0) ((c1 _ (by omega)).trans h1) (i2 (by simp only[jax];omega)) (i3 (by simp only[jax];omega)) ((c5 _ _ _ (by omega)).trans h4) (i5 (by simp only[jax];omega)) ((c5 _ _ _ (by omega)).trans h6);simpa (disch:=omega) only[c1,c2,c3,c4,c8,c11] using r
  | @ifaceD i m q b l h0 h1 h2 h3 h4 h5 i2 i4 =>
    intro hJ;simp only[jax] at hJ;have b2:=jb1 h2;simp only[jdp] at b2;have b4:=jb1 h4;simp only[jdp] at b4;have r:=Run.ifaceD (T:=T') (i:=i) (m:=m) (q:=q) (b:=b) (l:=l) ((c5 _ _ _ (by omega)).trans h0) ((c1 _ (by omega)).trans h1) (i2 (by simp only[jax];omega)) ((c5 _ _ _ (by omega)).trans h3) (i4 (by simp only[jax];omega)) ((c5 _ _ _ (by omega)).trans h5);simpa (disch:=omega) only[c1,c2,c3,c4,c8,c11] using r
  | @mem0 c i h0  =>
    intro hJ;simp only[jax] at hJ;have r:=Run.mem0 (T:=T') (c:=c) (i:=i) ((c5 _ _ _ (by omega)).trans h0);simpa (disch:=omega) only[c1,c2,c3,c4,c8,c11] using r
  | @mem1 c i j l h0 h1 h2 i2 =>
    intro hJ;simp only[jax] at hJ;have b2:=jb1 h2;simp only[jdp] at b2;have r:=Run.mem1 (T:=T') (c:=c) (i:=i) (j:=j) (l:=l) (by rw[c1 i (by omega)];exact h0) ((c5 _ _ _ (by omega)).trans h1) (i2 (by simp only[jax];omega));simpa (disch:=omega) only[c1,c2,c3,c4,c8,c11] using r
  | @mem2 c i k j n l h0 h1 h2 i1 i2 =>
    intro hJ;simp only[jax] at hJ;have b1:=jb1 h1;simp only[jdp] at b1;have b2:=jb1 h2;simp only[jdp] at b2;have r:=Run.mem2 (T:=T') (c:=c) (i:=i) (k:=k) (j:=j) (n:=n) (l:=l) ((c5 _ _ _ (by omega)).trans h0) (i1 (by simp only[jax];omega)) (i2 (by simp only[jax];omega));simpa (disch:=omega) only[c1,c2,c3,c4,c8,c11] using r
  | @mem3 i k j n l h0 h1 h2 h3 i2 i3 =>
    intro hJ;simp only[jax] at hJ;have b2:=jb1 h2;simp only[jdp] at b2;have b3:=jb1 h3;simp only[jdp] at b3;have r:=Run.mem3 (T:=T') (i:=i) (k:=k) (j:=j) (n:=n) (l:=l) (c6 _ _ _ (by first | assumption | decide) h0) (c6 _ _ _ (by first | assumption | decide) h1) (i2 (by simp only[jax];omega)) (i3 (by simp only[jax];omega));simpa (disch:=omega) only[c1,c2,c3,c4,c8,c11] using r
  | @funcD b i k m j a e c h0 h1 h2 h3 h4 h5 h6 i3 i5 i6 =>
    intro hJ;simp only[jax] at hJ;have b3:=jb1 h3;simp only[jdp] at b3;have b5:=jb1 h5;simp only[jdp] at b5;have b6:=jb1 h6;simp only[jdp] at b6;have r:=Run.funcD (T:=T') (b:=b) (i:=i) (k:=k) (m:=m) (j:=j) (a:=a) (e:=e) (c:=c) ((c5 _ _ _ (by omega)).trans h0) ((c1 _ (by omega)).trans h1) ((c5 _ _ _ (by omega)).trans h2) (i3 (by simp only[jax];omega)) ((c5 _ _ _ (by omega)).trans h4) (i5 (by simp only[jax];omega)) (i6 (by simp only[jax];omega));simpa (disch:=omega) only[c1,c2,c3,c4,c8,c11] using r
  | @blk1 i j n h0 i0 =>
    intro hJ;simp only[jax] at hJ;have b0:=jb1 h0;simp only[jdp] at b0;have r:=Run.blk1 (T:=T') (i:=i) (j:=j) (n:=n) (i0 (by simp only[jax];omega));simpa (disch:=omega) only[c1,c2,c3,c4,c8,c11] using r
  | @blk0 i h0  =>
    intro hJ;simp only[jax] at hJ;have r:=Run.blk0 (T:=T') (i:=i) ((c5 _ _ _ (by omega)).trans h0);simpa (disch:=omega) only[c1,c2,c3,c4,c8,c11] using r
  | @params0 f i h0  =>
    intro hJ;simp only[jax] at hJ;have r:=Run.params0 (T:=T') (f:=f) (i:=i) ((c5 _ _ _ (by omega)).trans h0);simpa (disch:=omega) only[c1,c2,c3,c4,c8,c11] using r
  | @params1 i k j n l h0 h1 h2 i1 i2 =>
    intro hJ;simp only[jax] at hJ;have b1:=jb1 h1;simp only[jdp] at b1;have b2:=jb1 h2;simp only[jdp] at b2;have r:=Run.params1 (T:=T') (i:=i) (k:=k) (j:=j) (n:=n) (l:=l) (c6 _ _ _ (by first | assumption | decide) h0) (i1 (by simp only[jax];omega)) (i2 (by simp only[jax];omega));simpa (disch:=omega) only[c1,c2,c3,c4,c8,c11] using r
  | @params2 i k j n l h0 h1 h2 i1 i2 =>
    intro hJ;simp only[jax] at hJ;have b1:=jb1 h1;simp only[jdp] at b1;have b2:=jb1 h2;simp only[jdp] at b2;have r:=Run.params2 (T:=T') (i:=i) (k:=k) (j:=j) (n:=n) (l:=l) ((c5 _ _ _ (by omega)).trans h0) (i1 (by simp only[jax];omega)) (i2 (by simp only[jax];omega));simpa (disch:=omega) only[c1,c2,c3,c4,c8,c11] using r
  | @param0 i h0  =>
    intro hJ;simp only[jax] at hJ;have r:=Run.param0 (T:=T') (i:=i) ((c1 _ (by omega)).trans h0);simpa (disch:=omega) only[c1,c2,c3,c4,c8,c11] using r
  | @param1 i j t h0 h1 h2 i2 =>
    intro hJ;simp only[jax] at hJ;have b2:=jb1 h2;simp only[jdp] at b2;have r:=Run.param1 (T:=T') (i:=i) (j:=j) (t:=t) ((c1 _ (by omega)).trans h0) ((c5 _ _ _ (by omega)).trans h1) (i2 (by simp only[jax];omega));simpa (disch:=omega) only[c1,c2,c3,c4,c8,c11] using r
  | @varD i k m t l h0 h1 h2 h3 h4 h5 i3 i4 =>
    intro hJ;simp only[jax] at hJ;have b3:=jb1 h3;simp only[jdp] at b3;have b4:=jb1 h4;simp only[jdp] at b4;have r:=Run.varD (T:=T') (i:=i) (k:=k) (m:=m) (t:=t) (l:=l) ((c5 _ _ _ (by omega)).trans h0) ((c1 _ (by omega)).trans h1) ((c5 _ _ _ (by omega)).trans h2) (i3 (by simp only[jax];omega)) (i4 (by simp only[jax];omega)) ((c5 _ _ _ (by omega)).trans h5);simpa (disch:=omega) only[c1,c2,c3,c4,c8,c11] using r
  | @typM i h0  =>
    intro hJ;simp only[jax] at hJ;have r:=Run.typM (T:=T') (i:=i) ((c1 _ (by omega)).trans h0);simpa (disch:=omega) only[c1,c2,c3,c4,c8,c11] using r
  | @typ1 i h0 h1  =>
    intro hJ;simp only[jax] at hJ;have r:=Run.typ1 (T:=T') (i:=i) ((c1 _ (by omega)).trans h0) (c6 _ _ _ (by first | assumption | decide) h1);simpa (disch:=omega) only[c1,c2,c3,c4,c8,c11] using r
  | @typ2 i h0 h1 h2  =>
    intro hJ;simp only[jax] at hJ;have r:=Run.typ2 (T:=T') (i:=i) ((c1 _ (by omega)).trans h0) ((c5 _ _ _ (by omega)).trans h1) ((c1 _ (by omega)).trans h2);simpa (disch:=omega) only[c1,c2,c3,c4,c8,c11] using r
  | @elem0 i h0  =>
    intro hJ;simp only[jax] at hJ;have r:=Run.elem0 (T:=T') (i:=i) ((c1 _ (by omega)).trans h0);simpa (disch:=omega) only[c1,c2,c3,c4,c8,c11] using r
  | @elem1 i j n h0 h1 i1 =>
    intro hJ;simp only[jax] at hJ;have b1:=jb1 h1;simp only[jdp] at b1;have r:=Run.elem1 (T:=T') (i:=i) (j:=j) (n:=n) (c7 _ _ (by decide) h0) (i1 (by simp only[jax];omega));simpa (disch:=omega) only[c1,c2,c3,c4,c8,c11] using r
  | @types0 i j n h0 h1 i0 =>
    intro hJ;simp only[jax] at hJ;have b0:=jb1 h0;simp only[jdp] at b0;have r:=Run.types0 (T:=T') (i:=i) (j:=j) (n:=n) (i0 (by simp only[jax];omega)) (c6 _ _ _ (by first | assumption | decide) h1);simpa (disch:=omega) only[c1,c2,c3,c4,c8,c11] using r
  | @types1 i k j n l h0 h1 h2 i0 i2 =>
    intro hJ;simp only[jax] at hJ;have b0:=jb1 h0;simp only[jdp] at b0;have b2:=jb1 h2;simp only[jdp] at b2;have r:=Run.types1 (T:=T') (i:=i) (k:=k) (j:=j) (n:=n) (l:=l) (i0 (by simp only[jax];omega)) ((c5 _ _ _ (by omega)).trans h1) (i2 (by simp only[jax];omega));simpa (disch:=omega) only[c1,c2,c3,c4,c8,c11] using r
  | @optTyp0 k x i h0 h1  =>
    intro hJ;simp only[jax] at hJ;have r:=Run.optTyp0 (T:=T') (k:=k) (x:=x) (i:=i) h0 (c6 _ _ _ (by first | assumption | decide) h1);simpa (disch:=omega) only[c1,c2,c3,c4,c8,c11] using r
  | @optTyp1 k x i j n h0 h1 h2 i2 =>
    intro hJ;simp only[jax] at hJ;have b2:=jb1 h2;simp only[jdp] at b2;have r:=Run.optTyp1 (T:=T') (k:=k) (x:=x) (i:=i) (j:=j) (n:=n) h0 ((c5 _ _ _ (by omega)).trans h1) (i2 (by simp only[jax];omega));simpa (disch:=omega) only[c1,c2,c3,c4,c8,c11] using r
  | @optTypes0 x i h0  =>
    intro hJ;simp only[jax] at hJ;have r:=Run.optTypes0 (T:=T') (x:=x) (i:=i) (c6 _ _ _ (by first | assumption | decide) h0);simpa (disch:=omega) only[c1,c2,c3,c4,c8,c11] using r
  | @optTypes1 x i j n h0 h1 i1 =>
    intro hJ;simp only[jax] at hJ;have b1:=jb1 h1;simp only[jdp] at b1;have r:=Run.optTypes1 (T:=T') (x:=x) (i:=i) (j:=j) (n:=n) ((c5 _ _ _ (by omega)).trans h0) (i1 (by simp only[jax];omega));simpa (disch:=omega) only[c1,c2,c3,c4,c8,c11] using r
  | @optInit0 i h0  =>
    intro hJ;simp only[jax] at hJ;have r:=Run.optInit0 (T:=T') (i:=i) (c6 _ _ _ (by first | assumption | decide) h0);simpa (disch:=omega) only[c1,c2,c3,c4,c8,c11] using r
  | @optInit1 i j n h0 h1 i1 =>
    intro hJ;simp only[jax] at hJ;have b1:=jb1 h1;simp only[jdp] at b1;have r:=Run.optInit1 (T:=T') (i:=i) (j:=j) (n:=n) ((c5 _ _ _ (by omega)).trans h0) (i1 (by simp only[jax];omega));simpa (disch:=omega) only[c1,c2,c3,c4,c8,c11] using r
  | @block i j l h0 h1 h2 i1 =>
    intro hJ;simp only[jax] at hJ;have b1:=jb1 h1;simp only[jdp] at b1;have r:=Run.block (T:=T') (i:=i) (j:=j) (l:=l) ((c5 _ _ _ (by omega)).trans h0) (i1 (by simp only[jax];omega)) ((c5 _ _ _ (by omega)).trans h2);simpa (disch:=omega) only[c1,c2,c3,c4,c8,c11] using r
  | @stmts0 i h0  =>
    intro hJ;simp only[jax] at hJ;have r:=Run.stmts0 (T:=T') (i:=i) ((c5 _ _ _ (by omega)).trans h0);simpa (disch:=omega) only[c1,c2,c3,c4,c8,c11] using r
  | @stmts1 i k j n l h0 h1 h2 i1 i2 =>
    intro hJ;simp only[jax] at hJ;have b1:=jb1 h1;simp only[jdp] at b1;have b2:=jb1 h2;simp only[jdp] at b2;have r:=Run.stmts1 (T:=T') (i:=i) (k:=k) (j:=j) (n:=n) (l:=l) (c6 _ _ _ (by first | assumption | decide) h0) (i1 (by simp only[jax];omega)) (i2 (by simp only[jax];omega));simpa (disch:=omega) only[c1,c2,c3,c4,c8,c11] using r
  | @stmtM i h0 h1  =>
    intro hJ;simp only[jax] at hJ;have r:=Run.stmtM (T:=T') (i:=i) (by rw[c1 i (by omega)];exact h0) ((c5 _ _ _ (by omega)).trans h1);simpa (disch:=omega) only[c1,c2,c3,c4,c8,c11] using r
  | @stmtV i j n h0 h1 i1 =>
    intro hJ;simp only[jax] at hJ;have b1:=jb1 h1;simp only[jdp] at b1;have r:=Run.stmtV (T:=T') (i:=i) (j:=j) (n:=n) ((c5 _ _ _ (by omega)).trans h0) (i1 (by simp only[jax];omega));simpa (disch:=omega) only[c1,c2,c3,c4,c8,c11] using r
  | @stmtB i j n h0 h1 i1 =>
    intro hJ;simp only[jax] at hJ;have b1:=jb1 h1;simp only[jdp] at b1;have r:=Run.stmtB (T:=T') (i:=i) (j:=j) (n:=n) ((c5 _ _ _ (by omega)).trans h0) (i1 (by simp only[jax];omega));simpa (disch:=omega) only[c1,c2,c3,c4,c8,c11] using r
  | @stmtR i j l h0 h1 h2 i1 =>
    intro hJ;simp only[jax] at hJ;have b1:=jb1 h1;simp only[jdp] at b1;have r:=Run.stmtR (T:=T') (i:=i) (j:=j) (l:=l) ((c5 _ _ _ (by omega)).trans h0) (i1 (by simp only[jax];omega)) ((c5 _ _ _ (by omega)).trans h2);simpa (disch:=omega) only[c1,c2,c3,c4,c8,c11] using r
  | @stmtI i k m j c a b h0 h1 h2 h3 i1 i2 i3 =>
    intro hJ;simp only[jax] at hJ;have b1:=jb1 h1;simp only[jdp] at b1;have b2:=jb1 h2;simp only[jdp] at b2;have b3:=jb1 h3;simp only[jdp] at b3;have r:=Run.stmtI (T:=T') (i:=i) (k:=k) (m:=m) (j:=j) (c:=c) (a:=a) (b:=b) ((c5 _ _ _ (by omega)).trans h0) (i1 (by simp only[jax];omega)) (i2 (by simp only[jax];omega)) (i3 (by simp only[jax];omega));simpa (disch:=omega) only[c1,c2,c3,c4,c8,c11] using r
  | @stmtW i k j c a h0 h1 h2 i1 i2 =>
    intro hJ;simp only[jax] at hJ;have b1:=jb1 h1;simp only[jdp] at b1;have b2:=jb1 h2;simp only[jdp] at b2;have r:=Run.stmtW (T:=T') (i:=i) (k:=k) (j:=j) (c:=c) (a:=a) ((c5 _ _ _ (by omega)).trans h0) (i1 (by simp only[jax];omega)) (i2 (by simp only[jax];omega));simpa (disch:=omega) only[c1,c2,c3,c4,c8,c11] using r
  | @stmtA i k j a b h0 h1 h2 h3 h4 h5 h6 h7 h8 h9 i6 i8 =>
    intro hJ;simp only[jax] at hJ;have b6:=jb1 h6;simp only[jdp] at b6;have b8:=jb1 h8;simp only[jdp] at b8;have r:=Run.stmtA (T:=T') (i:=i) (k:=k) (j:=j) (a:=a) (b:=b) (c10 _ h0) (c6 _ _ _ (by first | assumption | decide) h1) (c6 _ _ _ (by first | assumption | decide) h2) (c6 _ _ _ (by first | assumption | decide) h3) (c6 _ _ _ (by first | assumption | decide) h4) (c6 _ _ _ (by first | assumption | decide) h5) (i6 (by simp only[jax];omega)) ((c5 _ _ _ (by omega)).trans h7) (i8 (by simp only[jax];omega)) ((c5 _ _ _ (by omega)).trans h9);simpa (disch:=omega) only[c1,c2,c3,c4,c8,c11] using r
  | @stmtD i j a h0 h1 h2 h3 h4 h5 h6 h7 h8 i6 =>
    intro hJ;simp only[jax] at hJ;have b6:=jb1 h6;simp only[jdp] at b6;have r:=Run.stmtD (T:=T') (i:=i) (j:=j) (a:=a) (c10 _ h0) (c6 _ _ _ (by first | assumption | decide) h1) (c6 _ _ _ (by first | assumption | decide) h2) (c6 _ _ _ (by first | assumption | decide) h3) (c6 _ _ _ (by first | assumption | decide) h4) (c6 _ _ _ (by first | assumption | decide) h5) (i6 (by simp only[jax];omega)) (c6 _ _ _ (by first | assumption | decide) h7) ((c5 _ _ _ (by omega)).trans h8);simpa (disch:=omega) only[c1,c2,c3,c4,c8,c11] using r
  | @optExpr0 i h0  =>
    intro hJ;simp only[jax] at hJ;have r:=Run.optExpr0 (T:=T') (i:=i) ((c5 _ _ _ (by omega)).trans h0);simpa (disch:=omega) only[c1,c2,c3,c4,c8,c11] using r
  | @optExpr1 i j n h0 h1 i1 =>
    intro hJ;simp only[jax] at hJ;have b1:=jb1 h1;simp only[jdp] at b1;have r:=Run.optExpr1 (T:=T') (i:=i) (j:=j) (n:=n) (c6 _ _ _ (by first | assumption | decide) h0) (i1 (by simp only[jax];omega));simpa (disch:=omega) only[c1,c2,c3,c4,c8,c11] using r
  | @optElse0 i h0  =>
    intro hJ;simp only[jax] at hJ;have r:=Run.optElse0 (T:=T') (i:=i) (c6 _ _ _ (by first | assumption | decide) h0);simpa (disch:=omega) only[c1,c2,c3,c4,c8,c11] using r
  | @optElse1 i j n h0 h1 i1 =>
    intro hJ;simp only[jax] at hJ;have b1:=jb1 h1;simp only[jdp] at b1;have r:=Run.optElse1 (T:=T') (i:=i) (j:=j) (n:=n) ((c5 _ _ _ (by omega)).trans h0) (i1 (by simp only[jax];omega));simpa (disch:=omega) only[c1,c2,c3,c4,c8,c11] using r
  | @cond i j n h0 h1 h2 i1 =>
    intro hJ;simp only[jax] at hJ;have b1:=jb1 h1;simp only[jdp] at b1;have r:=Run.cond (T:=T') (i:=i) (j:=j) (n:=n) ((c5 _ _ _ (by omega)).trans h0) (i1 (by simp only[jax];omega)) ((c5 _ _ _ (by omega)).trans h2);simpa (disch:=omega) only[c1,c2,c3,c4,c8,c11] using r
  | @expr lvl i k j n m h0 h1 h2 i1 i2 =>
    intro hJ;simp only[jax] at hJ;have b1:=jb1 h1;simp only[jdp] at b1;have b2:=jb1 h2;simp only[jdp] at b2;have r:=Run.expr (T:=T') (lvl:=lvl) (i:=i) (k:=k) (j:=j) (n:=n) (m:=m) (by omega) (i1 (by simp only[jax];omega)) (i2 (by simp only[jax];omega));simpa (disch:=omega) only[c1,c2,c3,c4,c8,c11] using r
  | @exprU lvl i j n h0 h1 i1 =>
    intro hJ;simp only[jax] at hJ;have b1:=jb1 h1;simp only[jdp] at b1;have r:=Run.exprU (T:=T') (lvl:=lvl) (i:=i) (j:=j) (n:=n) (by omega) (i1 (by simp only[jax];omega));simpa (disch:=omega) only[c1,c2,c3,c4,c8,c11] using r
  | @bin0 lvl i n h0  =>
    intro hJ;simp only[jax] at hJ;have r:=Run.bin0 (T:=T') (lvl:=lvl) (i:=i) (n:=n) (c9 _ _ h0);simpa (disch:=omega) only[c1,c2,c3,c4,c8,c11] using r
  | @bin1 lvl i k j n b m h0 h1 h2 i1 i2 =>
    intro hJ;simp only[jax] at hJ;have b1:=jb1 h1;simp only[jdp] at b1;have b2:=jb1 h2;simp only[jdp] at b2;have r:=Run.bin1 (T:=T') (lvl:=lvl) (i:=i) (k:=k) (j:=j) (n:=n) (b:=b) (m:=m) (by rw[c8 _ _ (by omega)];exact h0) (by simpa (disch:=omega) only[c1,c2,c3,c4,c8] using i1 (by simp only[jax];omega)) (by simpa (disch:=omega) only[c1,c2,c3,c4,c8] using i2 (by simp only[jax];omega));simpa (disch:=omega) only[c1,c2,c3,c4,c8,c11] using r
  | @unary1 i j a h0 h1 i1 =>
    intro hJ;simp only[jax] at hJ;have b1:=jb1 h1;simp only[jdp] at b1;have r:=Run.unary1 (T:=T') (i:=i) (j:=j) (a:=a) (by rw[c5 i _ _ (by omega),c5 i _ _ (by omega)];exact h0) (i1 (by simp only[jax];omega));simpa (disch:=omega) only[c1,c2,c3,c4,c8,c11] using r
  | @unary2 i k j n m h0 h1 h2 h3 i2 i3 =>
    intro hJ;simp only[jax] at hJ;have b2:=jb1 h2;simp only[jdp] at b2;have b3:=jb1 h3;simp only[jdp] at b3;have r:=Run.unary2 (T:=T') (i:=i) (k:=k) (j:=j) (n:=n) (m:=m) (c6 _ _ _ (by first | assumption | decide) h0) (c6 _ _ _ (by first | assumption | decide) h1) (i2 (by simp only[jax];omega)) (i3 (by simp only[jax];omega));simpa (disch:=omega) only[c1,c2,c3,c4,c8,c11] using r
  | @post0 i n h0 h1  =>
    intro hJ;simp only[jax] at hJ;have r:=Run.post0 (T:=T') (i:=i) (n:=n) (c6 _ _ _ (by first | assumption | decide) h0) (c6 _ _ _ (by first | assumption | decide) h1);simpa (disch:=omega) only[c1,c2,c3,c4,c8,c11] using r
  | @post1 i j n m h0 h1 h2 i2 =>
    intro hJ;simp only[jax] at hJ;have b2:=jb1 h2;simp only[jdp] at b2;have r:=Run.post1 (T:=T') (i:=i) (j:=j) (n:=n) (m:=m) ((c5 _ _ _ (by omega)).trans h0) ((c1 _ (by omega)).trans h1) (by simpa (disch:=omega) only[c1,c2,c3,c4,c8] using i2 (by simp only[jax];omega));simpa (disch:=omega) only[c1,c2,c3,c4,c8,c11] using r
  | @post2 i k j n a m h0 h1 h2 i1 i2 =>
    intro hJ;simp only[jax] at hJ;have b1:=jb1 h1;simp only[jdp] at b1;have b2:=jb1 h2;simp only[jdp] at b2;have r:=Run.post2 (T:=T') (i:=i) (k:=k) (j:=j) (n:=n) (a:=a) (m:=m) ((c5 _ _ _ (by omega)).trans h0) (by simpa (disch:=omega) only[c1,c2,c3,c4,c8] using i1 (by simp only[jax];omega)) (by simpa (disch:=omega) only[c1,c2,c3,c4,c8] using i2 (by simp only[jax];omega));simpa (disch:=omega) only[c1,c2,c3,c4,c8,c11] using r
  | @args i j l h0 h1 i0 =>
    intro hJ;simp only[jax] at hJ;have b0:=jb1 h0;simp only[jdp] at b0;have r:=Run.args (T:=T') (i:=i) (j:=j) (l:=l) (i0 (by simp only[jax];omega)) ((c5 _ _ _ (by omega)).trans h1);simpa (disch:=omega) only[c1,c2,c3,c4,c8,c11] using r
  | @argsL0 f i h0  =>
    intro hJ;simp only[jax] at hJ;have r:=Run.argsL0 (T:=T') (f:=f) (i:=i) ((c5 _ _ _ (by omega)).trans h0);simpa (disch:=omega) only[c1,c2,c3,c4,c8,c11] using r
  | @argsL1 i k j n l h0 h1 h2 i1 i2 =>
    intro hJ;simp only[jax] at hJ;have b1:=jb1 h1;simp only[jdp] at b1;have b2:=jb1 h2;simp only[jdp] at b2;have r:=Run.argsL1 (T:=T') (i:=i) (k:=k) (j:=j) (n:=n) (l:=l) (c6 _ _ _ (by first | assumption | decide) h0) (i1 (by simp only[jax];omega)) (i2 (by simp only[jax];omega));simpa (disch:=omega) only[c1,c2,c3,c4,c8,c11] using r
  | @argsL2 i k j n l h0 h1 h2 i1 i2 =>
    intro hJ;simp only[jax] at hJ;have b1:=jb1 h1;simp only[jdp] at b1;have b2:=jb1 h2;simp only[jdp] at b2;have r:=Run.argsL2 (T:=T') (i:=i) (k:=k) (j:=j) (n:=n) (l:=l) ((c5 _ _ _ (by omega)).trans h0) (i1 (by simp only[jax];omega)) (i2 (by simp only[jax];omega));simpa (disch:=omega) only[c1,c2,c3,c4,c8,c11] using r
  | @arg0 i h0  =>
    intro hJ;simp only[jax] at hJ;have r:=Run.arg0 (T:=T') (i:=i) ((c1 _ (by omega)).trans h0);simpa (disch:=omega) only[c1,c2,c3,c4,c8,c11] using r
  | @arg1 i j n h0 h1 i1 =>
    intro hJ;simp only[jax] at hJ;have b1:=jb1 h1;simp only[jdp] at b1;have r:=Run.arg1 (T:=T') (i:=i) (j:=j) (n:=n) (c7 _ _ (by decide) h0) (i1 (by simp only[jax];omega));simpa (disch:=omega) only[c1,c2,c3,c4,c8,c11] using r
  | @leaf i q h0  =>
    intro hJ;simp only[jax] at hJ;have r:=Run.leaf (T:=T') (i:=i) (q:=q) (by rw[c1 i (by omega)];exact h0);simpa (disch:=omega) only[c1,c2,c3,c4,c8,c11] using r
  | @primM i h0  =>
    intro hJ;simp only[jax] at hJ;have r:=Run.primM (T:=T') (i:=i) ((c1 _ (by omega)).trans h0);simpa (disch:=omega) only[c1,c2,c3,c4,c8,c11] using r
  | @new1 i j l h0 h1 h2 h3 h4 i4 =>
    intro hJ;simp only[jax] at hJ;have b4:=jb1 h4;simp only[jdp] at b4;have r:=Run.new1 (T:=T') (i:=i) (j:=j) (l:=l) ((c5 _ _ _ (by omega)).trans h0) ((c1 _ (by omega)).trans h1) (c6 _ _ _ (by first | assumption | decide) h2) ((c5 _ _ _ (by omega)).trans h3) (i4 (by simp only[jax];omega));simpa (disch:=omega) only[c1,c2,c3,c4,c8,c11] using r
  | @new2 i j l h0 h1 h2 h3 h4 h5 i5 =>
    intro hJ;simp only[jax] at hJ;have b5:=jb1 h5;simp only[jdp] at b5;have r:=Run.new2 (T:=T') (i:=i) (j:=j) (l:=l) ((c5 _ _ _ (by omega)).trans h0) ((c1 _ (by omega)).trans h1) ((c5 _ _ _ (by omega)).trans h2) ((c1 _ (by omega)).trans h3) ((c5 _ _ _ (by omega)).trans h4) (i5 (by simp only[jax];omega));simpa (disch:=omega) only[c1,c2,c3,c4,c8,c11] using r
  | @const i h0 h1 h2  =>
    intro hJ;simp only[jax] at hJ;have r:=Run.const (T:=T') (i:=i) (c6 _ _ _ (by first | assumption | decide) h0) ((c1 _ (by omega)).trans h1) (by rw[c2 _ (by omega)];exact h2);simpa (disch:=omega) only[c1,c2,c3,c4,c8,c11] using r
  | @paren i j n h0 h1 h2 i1 =>
    intro hJ;simp only[jax] at hJ;have b1:=jb1 h1;simp only[jdp] at b1;have r:=Run.paren (T:=T') (i:=i) (j:=j) (n:=n) ((c5 _ _ _ (by omega)).trans h0) (i1 (by simp only[jax];omega)) ((c5 _ _ _ (by omega)).trans h2);simpa (disch:=omega) only[c1,c2,c3,c4,c8,c11] using r
end
end Go.Proofs.YtonoklmobocikaaGreatDoor
