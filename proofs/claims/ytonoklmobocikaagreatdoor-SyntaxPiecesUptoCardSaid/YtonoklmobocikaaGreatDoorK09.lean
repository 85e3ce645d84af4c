/- Lemmas. -/
import Derived.Test.YtonoklmobocikaaGreatDoorK08
set_option linter.unusedVariables false
set_option linter.unusedSimpArgs false
set_option maxRecDepth 20000
set_option maxHeartbeats 6400000
namespace Go.Proofs.YtonoklmobocikaaGreatDoor
section
def ocN (r:Nd × Ps):Oc Nd:=match r.2.bad with | some a=>.error a | none=>.ok (r.1,r.2.i)
def jbc (T:List Tk) (len:Int) (f:Nat) (nt:NT) (i:Nat):Option (Oc Nd):=(jaw T len f nt ⟨i,none⟩).map ocN
def jaf {α β:Type} (o:Option (Oc α)) (k:α→Nat→Option (Oc β)):Option (Oc β) :=
  match o with | none=>none | some (.error a)=>some (.error a) | some (.ok x)=>k x.1 x.2
def jht {α β:Type} (o:Oc α) (k:α→Nat→Oc β):Oc β:=match o with | .error a=>.error a | .ok x=>k x.1 x.2
section
variable (T:List Tk) (len:Int)
def faP (i:Nat):Int:=jaq T len ⟨i,none⟩
def laP (i:Nat):Int:=jao T ⟨i,none⟩
def leafQ (k:Int) (i:Nat):Nd:=.mk k (tT T i) (faP T len i) (laP T (i+1)) []
def jjn (i:Nat):Oc (List UInt8):=jht (jeb T len i) fun x j=>if jbg T j=[46] then jht (jeb T len (j+1)) fun y j2=>.ok (x++46 :: y,j2) else .ok (x,j)
def typO (i:Nat):Oc Nd:=if kT T i=6 then .ok (leafQ T len 25 i,i+1) else jht (jjn T len i) fun x j=>.ok (.mk 8 x (faP T len i) (laP T j) [],j)
def jjp (i:Nat):Oc Nd:=if kT T i=7 then .ok (leafQ T len 26 i,i+1) else typO T len i
def jg0 (i:Nat):Oc Nd :=
  if kT T i=7 then .ok (leafQ T len 26 i,i+1)
  else jht (jeb T len i) fun x j=>jht (jbx T len [58] j) fun _ j2=>jht (typO T len j2) fun t j3=>.ok (.mk 7 x (faP T len i) (laP T j3) [t],j3)
def jfe (i:Nat):Oc Nd :=
  if kT T i=6 then jht (jbx T len [59] (i+1)) fun _ j=>.ok (.mk 25 (tT T i) (faP T len i) (laP T j) [],j)
  else if kT T i=7 then jht (jbx T len [59] (i+1)) fun _ j=>.ok (.mk 26 (tT T i) (faP T len i) (laP T j) [],j)
  else .error (faP T len i)
variable (E:Nat→Option (Oc Nd))
def optQ (x:List UInt8) (i:Nat):Option (Oc Nd) :=
  if jbg T i=x then jaf (E (i+1)) fun y j=>some (.ok (jbm [y] (laP T i),j)) else some (.ok (jbm [] (laP T i),i))
def jmb:Nat→Nat→Option (Oc (List Nd))
  | 0,_=>none
  | k+1,i=>jaf (E i) fun x j=>if jbg T j=[44] then jaf (jmb k (j+1)) fun l j2=>some (.ok (x :: l,j2)) else some (.ok ([x],j))
def jk8 (k i:Nat):Option (Oc Nd) :=
  jaf (some (jbx T len [40] i)) fun _ j=>if jbg T j=[41] then some (.ok (jbm [] (laP T j),j+1))
    else jaf (jmb T E k j) fun l j2=>jaf (some (jbx T len [41] j2)) fun _ j3=>some (.ok (jbm l (laP T j),j3))
def jj4:Nat→Nat→Option (Oc (List Nd))
  | 0,_=>none
  | k+1,i=>if jbg T i=[125] then some (.ok ([],i+1)) else jaf (E i) fun x j=>jaf (jj4 k j) fun l j2=>some (.ok (x :: l,j2))
def jn3 (k i:Nat):Option (Oc Nd) :=
  jaf (some (jbx T len [123] i)) fun _ j=>jaf (jj4 T E k j) fun l j2=>some (.ok (jbm l (laP T j),j2))
def jkt (x:List UInt8) (k i:Nat):Option (Oc Nd) :=
  if jbg T i=x then jaf (jmb T (fun j=>some (jjp T len j)) k (i+1)) fun l j=>some (.ok (jbm l (laP T i),j)) else some (.ok (jbm [] (laP T i),i))
variable (rec:NT→Nat→Option (Oc Nd))
def varQ (i:Nat):Option (Oc Nd) :=
  jaf (some (jbx T len jji i)) fun _ j=>jaf (some (jeb T len j)) fun x j2=>jaf (some (jbx T len [58] j2)) fun _ j3=>jaf (some (typO T len j3)) fun t j4 =>
    jaf (optQ T (rec (.expr 0)) [61] j4) fun v j5=>jaf (some (jbx T len [59] j5)) fun _ j6=>some (.ok (.mk 6 x (faP T len i) (laP T j6) [t,v],j6))
end
theorem tk_form {T:List Tk} (hT:jad T=true) {i:Nat} {t:Tk} (h:T[i]?=some t):jgq t.kind t.text=true:=by
  unfold jad at hT;exact (jfy (List.all_eq_true.1 hT t (List.mem_of_getElem? h))).1
theorem kw_mk {x:List UInt8} (h:jjm x=true):jim x=false:=by
  unfold jjm at h;exact (by decide:∀y∈kwL,jim y=false) x (List.contains_iff_mem.1 h)
theorem jd5 {T:List Tk} (hT:jad T=true) (k:Int) (x:List UInt8) (hk:k=2∧jjm x=true∨k=5∧jim x=true) (i:Nat):isP T k x ⟨i,none⟩=decide (jbg T i=x):=by
  unfold isP jbi txtP jbg kT tT
  cases h:T[i]? with
  | none =>
    rcases hk with ⟨rfl,hx⟩ | ⟨rfl,hx⟩
    · (have:([]:List UInt8)≠x:=fun e=>by subst e;revert hx;decide);simp[h,this]
    · (have:([]:List UInt8)≠x:=fun e=>by subst e;revert hx;decide);simp[h,this]
  | some t =>
    have hf:=tk_form hT h
    have hn:([]:List UInt8)≠x:=fun e=>by
      subst e;rcases hk with ⟨-,hx⟩ | ⟨-,hx⟩<;>(revert hx;decide)
    have key:(t.kind=k∧t.text=x)↔((if t.kind=2∨t.kind=5 then t.text else [])=x):=by
      rcases hk with ⟨rfl,hx⟩ | ⟨rfl,hx⟩
      · constructor
        · rintro ⟨h1,h2⟩;rw[if_pos (Or.inl h1)];exact h2
        · intro h1;split at h1
          · rename_i h2;refine ⟨?_,h1⟩;rcases h2 with h2 | h2
            · exact h2
            · rw[h2,h1] at hf;have hf:jim x=true:=hf;rw[kw_mk hx] at hf;cases hf
          · exact absurd h1 hn
      · constructor
        · rintro ⟨h1,h2⟩;rw[if_pos (Or.inr h1)];exact h2
        · intro h1;split at h1
          · rename_i h2;refine ⟨?_,h1⟩;rcases h2 with h2 | h2
            · rw[h2,h1] at hf;have hf:jjm x=true:=hf;rw[kw_mk hf] at hx;cases hx
            · exact h2
          · exact absurd h1 hn
    have e:((t.kind==k&&t.text==x)=decide (t.kind=k∧t.text=x)):=by
      by_cases h1:t.kind=k<;>by_cases h2:t.text=x<;>simp[h1,h2]
    simp only[h,Option.isSome,if_false,Bool.false_eq_true];rw[e];exact decide_eq_decide.2 key
section
variable {T:List Tk} {len:Int}
theorem jk7 {k:Int} (hk:k≠0) (x:List UInt8) (i:Nat) (a:Int):isP T k x ⟨i,some a⟩=false:=is_bad hk rfl
theorem jdf {k:Int} (hk:k≠0) (x:List UInt8) (i:Nat) (a:Int):jab T len k x ⟨i,some a⟩=⟨i,some a⟩:=by
  unfold jab;rw[jk7 hk,if_neg (by decide)];unfold jgg;exact if_pos rfl
theorem jna {k:Int} (hk:k≠0) (i:Nat) (a:Int):jai T len k ⟨i,some a⟩=([],⟨i,some a⟩):=by
  unfold jai;rw[if_neg (show ¬jbi T ⟨i,some a⟩=k from Ne.symm hk)];unfold jgg;simp
theorem jnl (i:Nat) (a:Int):jes T len ⟨i,some a⟩=([],⟨i,some a⟩):=by
  unfold jes;rw[jna (by decide)];show (if isP T 5 [46] ⟨i,some a⟩=true then _ else _)=_;rw[jk7 (by decide),if_neg (by decide)]
theorem jkr (i:Nat) (a:Int):(jel T len ⟨i,some a⟩).2=⟨i,some a⟩:=by
  unfold jel;rw[if_neg (show ¬jbi T ⟨i,some a⟩=6 from by show ¬(0:Int)=6;decide)];simp only[jnl]
theorem jcq {f:Nat} {nt:NT} {i:Nat} {a:Int} {n:Nd} {s':Ps} (h:jaw T len f nt ⟨i,some a⟩=some (n,s')):s'=⟨i,some a⟩:=by
  have h:=jep h;exact h.1.stay rfl
theorem jg3 (hT:jad T=true) (k:Int) (x:List UInt8) (hk:k=2∧jjm x=true∨k=5∧jim x=true) (i:Nat):jab T len k x ⟨i,none⟩=if jbg T i=x then ⟨i+1,none⟩ else ⟨i,some (faP T len i)⟩:=by
  unfold jab;rw[jd5 hT k x hk];by_cases h:jbg T i=x
  · rw[if_pos h,decide_eq_true h,if_pos rfl];try rfl
  · rw[if_neg h,decide_eq_false h,if_neg (by decide)];try rfl
theorem name_is (i:Nat):jai T len 1 ⟨i,none⟩=if kT T i=1 then (tT T i,⟨i+1,none⟩) else ([],⟨i,some (faP T len i)⟩):=by
  unfold jai;rfl
theorem jfq {x:List UInt8} {i:Nat} (h:jbg T i=x):jbx T len x i=.ok ((),i+1):=if_pos h
theorem jn8 {x:List UInt8} {i:Nat} (h:¬jbg T i=x):jbx T len x i=.error (faP T len i):=if_neg h
theorem nameO_ok {i:Nat} (h:kT T i=1):jeb T len i=.ok (tT T i,i+1):=if_pos h
theorem nameO_no {i:Nat} (h:¬kT T i=1):jeb T len i=.error (faP T len i):=if_neg h
theorem tynm_is (hT:jad T=true) (i:Nat):(∀x j,jjn T len i=.ok (x,j)→jes T len ⟨i,none⟩=(x,⟨j,none⟩))∧(∀a,jjn T len i=.error a→∃j x,jes T len ⟨i,none⟩=(x,⟨j,some a⟩)):=by
  unfold jjn jes;by_cases h1:kT T i=1
  · rw[nameO_ok h1,name_is,if_pos h1];simp only[jht,jd5 hT 5 [46] (Or.inr ⟨rfl,rfl⟩),decide_eq_true_eq];by_cases h2:jbg T (i+1)=[46]
    · simp only[if_pos h2,jbb,name_is];by_cases h3:kT T (i+1+1)=1
      · rw[nameO_ok h3];simp only[if_pos h3];exact ⟨fun x j h=>by cases h;rfl,fun a h=>by cases h⟩
      · rw[nameO_no h3];simp only[if_neg h3];exact ⟨fun x j h=>(by cases h),fun a h=>(by cases h;exact ⟨_,_,rfl⟩)⟩
    · simp only[if_neg h2];exact ⟨fun x j h=>by cases h;rfl,fun a h=>by cases h⟩
  · rw[nameO_no h1,name_is,if_neg h1];simp only[jht,jk7 (show (5:Int)≠0 by decide),if_false,Bool.false_eq_true];exact ⟨fun x j h=>(by cases h),fun a h=>(by cases h;exact ⟨_,_,rfl⟩)⟩
theorem jk4 {i:Nat} (k:Int) (h:kT T i=6∨kT T i=7):jco T len false ⟨i,none⟩=(leafQ T len (if kT T i=7 then 26 else 25) i,⟨i+1,none⟩):=by
  unfold jco;have hk:jbi T ⟨i,none⟩=kT T i:=rfl;simp only[hk];unfold jai;rw[if_pos hk];try rfl
theorem typ_is (hT:jad T=true) (i:Nat):(∀x j,typO T len i=.ok (x,j)→jel T len ⟨i,none⟩=(x,⟨j,none⟩))∧(∀a,typO T len i=.error a→∃j,(jel T len ⟨i,none⟩).2=⟨j,some a⟩):=by
  unfold typO jel;rw[show jbi T ⟨i,none⟩=kT T i from rfl];by_cases h1:kT T i=6
  · rw[if_pos h1,if_pos h1,jk4 0 (Or.inl h1),if_neg (by omega)];exact ⟨fun x j h=>(by cases h;rfl),fun a h=>(by cases h)⟩
  · rw[if_neg h1,if_neg h1];obtain ⟨k1,k2⟩:=tynm_is (len:=len) hT i
    cases h:jjn T len i with
    | error a =>
      obtain ⟨j,x,hx⟩:=k2 a h;rw[hx];simp only[jht];exact ⟨fun x j h=>(by cases h),fun b h=>(by cases h;exact ⟨j,rfl⟩)⟩
    | ok x =>
      obtain ⟨x,j⟩:=x;rw[k1 x j h];simp only[jht];exact ⟨fun x j h=>(by cases h;rfl),fun b h=>(by cases h)⟩
theorem jdl {f:Nat} {nt:NT} {i:Nat} {x:Nd} {s':Ps} (h:jaw T len f nt ⟨i,none⟩=some (x,s')):(∃j,s'=⟨j,none⟩∧jbc T len f nt i=some (.ok (x,j)))∨(∃j a,s'=⟨j,some a⟩∧jbc T len f nt i=some (.error a)):=by
  obtain ⟨j,b⟩:=s';unfold jbc;rw[h]
  cases b with
  | none=>exact Or.inl ⟨j,rfl,rfl⟩
  | some a=>exact Or.inr ⟨j,a,rfl,rfl⟩
theorem jdn (hT:jad T=true) (k:Int) (x:List UInt8) (hk:k=2∧jjm x=true∨k=5∧jim x=true) (i:Nat) :
    (∃j,jbx T len x i=.ok ((),j)∧jab T len k x ⟨i,none⟩=⟨j,none⟩)∨(∃a j,jbx T len x i=.error a∧jab T len k x ⟨i,none⟩=⟨j,some a⟩):=by
  rw[jg3 hT k x hk];by_cases h:jbg T i=x
  · exact Or.inl ⟨i+1,jfq h,if_pos h⟩
  · exact Or.inr ⟨_,i,jn8 h,if_neg h⟩
theorem jjq (i:Nat):(∃x j,jeb T len i=.ok (x,j)∧jai T len 1 ⟨i,none⟩=(x,⟨j,none⟩))∨(∃a x j,jeb T len i=.error a∧jai T len 1 ⟨i,none⟩=(x,⟨j,some a⟩)):=by
  rw[name_is];by_cases h:kT T i=1
  · exact Or.inl ⟨_,_,nameO_ok h,if_pos h⟩
  · exact Or.inr ⟨_,_,i,nameO_no h,if_neg h⟩
theorem st_name (hT:jad T=true) (i:Nat):(∃x j,jjn T len i=.ok (x,j)∧jes T len ⟨i,none⟩=(x,⟨j,none⟩))∨(∃a x j,jjn T len i=.error a∧jes T len ⟨i,none⟩=(x,⟨j,some a⟩)):=by
  obtain ⟨k1,k2⟩:=tynm_is (len:=len) hT i
  cases h:jjn T len i with
  | error a=>obtain ⟨j,x,hx⟩:=k2 a h;exact Or.inr ⟨a,x,j,rfl,hx⟩
  | ok x=>obtain ⟨x,j⟩:=x;exact Or.inl ⟨x,j,rfl,k1 x j h⟩
theorem st_typ (hT:jad T=true) (i:Nat):(∃x j,typO T len i=.ok (x,j)∧jel T len ⟨i,none⟩=(x,⟨j,none⟩))∨(∃a x j,typO T len i=.error a∧jel T len ⟨i,none⟩=(x,⟨j,some a⟩)):=by
  obtain ⟨k1,k2⟩:=typ_is (len:=len) hT i
  cases h:typO T len i with
  | error a=>obtain ⟨j,hx⟩:=k2 a h;exact Or.inr ⟨a,_,j,rfl,Prod.ext rfl hx⟩
  | ok x=>obtain ⟨x,j⟩:=x;exact Or.inl ⟨x,j,rfl,k1 x j h⟩
theorem fltI:(∀(x:List UInt8) (i:Nat) (a:Int),isP T 2 x ⟨i,some a⟩=false)∧(∀(x:List UInt8) (i:Nat) (a:Int),isP T 5 x ⟨i,some a⟩=false) :=
  ⟨fun x i a=>jk7 (by decide) x i a,fun x i a=>jk7 (by decide) x i a⟩
theorem fltW:(∀(x:List UInt8) (i:Nat) (a:Int),jab T len 2 x ⟨i,some a⟩=⟨i,some a⟩)∧(∀(x:List UInt8) (i:Nat) (a:Int),jab T len 5 x ⟨i,some a⟩=⟨i,some a⟩)∧(∀(i:Nat) (a:Int),jai T len 1 ⟨i,some a⟩=([],⟨i,some a⟩))∧(∀(i:Nat) (a:Int),jes T len ⟨i,some a⟩=([],⟨i,some a⟩))∧(∀(i:Nat) (a:Int),(jel T len ⟨i,some a⟩).2=⟨i,some a⟩) :=
  ⟨fun x i a=>jdf (by decide) x i a,fun x i a=>jdf (by decide) x i a,fun i a=>jna (by decide) i a,fun i a=>jnl i a,fun i a=>jkr i a⟩
theorem s_var (hT:jad T=true) {f i:Nat} {r:Nd × Ps} (h:bVar T len (jaw T len f) ⟨i,none⟩=some r):varQ T len (jbc T len f) i=some (ocN r):=by
  unfold bVar at h;unfold varQ;rcases jdn (len:=len) hT 2 jji (Or.inl ⟨rfl,rfl⟩) i with ⟨j,h1,h2⟩ | ⟨a,j,h1,h2⟩<;>simp only[h1,h2,jaf] at h ⊢
  · rcases jjq (T:=T) (len:=len) j with ⟨x,j2,h3,h4⟩ | ⟨a,x,j2,h3,h4⟩<;>simp only[h3,h4] at h ⊢
    · rcases jdn (len:=len) hT 5 [58] (Or.inr ⟨rfl,rfl⟩) j2 with ⟨j3,h5,h6⟩ | ⟨a,j3,h5,h6⟩<;>simp only[h5,h6] at h ⊢
      · rcases st_typ (len:=len) hT j3 with ⟨t,j4,h7,h8⟩ | ⟨a,t,j4,h7,h8⟩<;>simp only[h7,h8] at h ⊢
        · simp only[jd5 hT 5 [61] (Or.inr ⟨rfl,rfl⟩),decide_eq_true_eq,jbb,optQ] at h ⊢;by_cases h9:jbg T j4=[61]<;>simp only[h9,if_true,if_false] at h ⊢
          · obtain ⟨l,s5,ha,hb⟩:=ja2.1 h;obtain ⟨y,s6,hc,hd⟩:=ja2.1 ha;cases hd;rcases jdl hc with ⟨q,rfl,hq⟩ | ⟨q,a,rfl,hq⟩<;>simp only[hq,jaf] at hb ⊢
            · rcases jdn (len:=len) hT 5 [59] (Or.inr ⟨rfl,rfl⟩) q with ⟨j3,h5,h6⟩ | ⟨a,j3,h5,h6⟩<;>simp only[h5,h6] at hb ⊢
              · cases hb;rfl
              · (try simp only[fltI,fltW,Bool.false_eq_true,if_false,if_true,jjl] at hb);(repeat (obtain ⟨_,_,zz,hb⟩:=ja2.1 hb;(first | (have e:=jcq zz;subst e) | (cases zz) | (obtain ⟨_,_,zy,zz⟩:=ja2.1 zz;have e:=jcq zy;subst e;cases zz));try simp only[fltI,fltW,Bool.false_eq_true,if_false,if_true,jjl] at hb));(injection hb with hb);subst hb;first | rfl | simp only[ocN,jkr,jnl]
            · (try simp only[fltI,fltW,Bool.false_eq_true,if_false,if_true,jjl] at hb);(repeat (obtain ⟨_,_,zz,hb⟩:=ja2.1 hb;(first | (have e:=jcq zz;subst e) | (cases zz) | (obtain ⟨_,_,zy,zz⟩:=ja2.1 zz;have e:=jcq zy;subst e;cases zz));try simp only[fltI,fltW,Bool.false_eq_true,if_false,if_true,jjl] at hb));(injection hb with hb);subst hb;first | rfl | simp only[ocN,jkr,jnl]
          · simp only[thenP,jaf] at h ⊢;rcases jdn (len:=len) hT 5 [59] (Or.inr ⟨rfl,rfl⟩) j4 with ⟨j3,h5,h6⟩ | ⟨a,j3,h5,h6⟩<;>simp only[h5,h6] at h ⊢
            · cases h;rfl
            · (try simp only[fltI,fltW,Bool.false_eq_true,if_false,if_true,jjl] at h);(repeat (obtain ⟨_,_,zz,h⟩:=ja2.1 h;(first | (have e:=jcq zz;subst e) | (cases zz) | (obtain ⟨_,_,zy,zz⟩:=ja2.1 zz;have e:=jcq zy;subst e;cases zz));try simp only[fltI,fltW,Bool.false_eq_true,if_false,if_true,jjl] at h));(injection h with h);subst h;first | rfl | simp only[ocN,jkr,jnl]
        · (try simp only[fltI,fltW,Bool.false_eq_true,if_false,if_true,jjl] at h);(repeat (obtain ⟨_,_,zz,h⟩:=ja2.1 h;(first | (have e:=jcq zz;subst e) | (cases zz) | (obtain ⟨_,_,zy,zz⟩:=ja2.1 zz;have e:=jcq zy;subst e;cases zz));try simp only[fltI,fltW,Bool.false_eq_true,if_false,if_true,jjl] at h));(injection h with h);subst h;first | rfl | simp only[ocN,jkr,jnl]
      · (try simp only[fltI,fltW,Bool.false_eq_true,if_false,if_true,jjl] at h);(repeat (obtain ⟨_,_,zz,h⟩:=ja2.1 h;(first | (have e:=jcq zz;subst e) | (cases zz) | (obtain ⟨_,_,zy,zz⟩:=ja2.1 zz;have e:=jcq zy;subst e;cases zz));try simp only[fltI,fltW,Bool.false_eq_true,if_false,if_true,jjl] at h));(injection h with h);subst h;first | rfl | simp only[ocN,jkr,jnl]
    · (try simp only[fltI,fltW,Bool.false_eq_true,if_false,if_true,jjl] at h);(repeat (obtain ⟨_,_,zz,h⟩:=ja2.1 h;(first | (have e:=jcq zz;subst e) | (cases zz) | (obtain ⟨_,_,zy,zz⟩:=ja2.1 zz;have e:=jcq zy;subst e;cases zz));try simp only[fltI,fltW,Bool.false_eq_true,if_false,if_true,jjl] at h));(injection h with h);subst h;first | rfl | simp only[ocN,jkr,jnl]
  · (try simp only[fltI,fltW,Bool.false_eq_true,if_false,if_true,jjl] at h);(repeat (obtain ⟨_,_,zz,h⟩:=ja2.1 h;(first | (have e:=jcq zz;subst e) | (cases zz) | (obtain ⟨_,_,zy,zz⟩:=ja2.1 zz;have e:=jcq zy;subst e;cases zz));try simp only[fltI,fltW,Bool.false_eq_true,if_false,if_true,jjl] at h));(injection h with h);subst h;first | rfl | simp only[ocN,jkr,jnl]
end
end
section
section
variable (T:List Tk) (len:Int) (rec:NT→Nat→Option (Oc Nd))
def impQ (i:Nat):Option (Oc Nd) :=
  jaf (some (jbx T len jft i)) fun _ j=>jaf (some (jeb T len j)) fun x j2=>jaf (some (jbx T len [59] j2)) fun _ j3=>some (.ok (.mk 2 x (faP T len i) (laP T j3) [],j3))
def declQ (i:Nat):Option (Oc Nd) :=
  if jbg T i=jeo then rec .classD i else if jbg T i=jey then rec .ifaceD i else if jbg T i=jed then rec (.funcD true) i else if jbg T i=jji then rec .varD i else some (.error (faP T len i))
def jm2 (cls:Bool) (i:Nat):Option (Oc Nd) :=
  if jbg T i=jed then rec (.funcD cls) i else if cls=true∧jbg T i=jji then rec .varD i else some (jfe T len i)
def classQ (k i:Nat):Option (Oc Nd) :=
  jaf (some (jbx T len jeo i)) fun _ j=>jaf (some (jeb T len j)) fun x j2=>jaf (optQ T (fun q=>some (typO T len q)) jmr j2) fun e j3=>jaf (jkt T len jis k j3) fun s j4 =>
    jaf (jn3 T len (jm2 T len rec true) k j4) fun m j5=>some (.ok (.mk 3 x (faP T len i) (laP T j5) [e,s,m],j5))
def ifaceQ (k i:Nat):Option (Oc Nd) :=
  jaf (some (jbx T len jey i)) fun _ j=>jaf (some (jeb T len j)) fun x j2=>jaf (jkt T len jmr k j2) fun s j4 =>
    jaf (jn3 T len (jm2 T len rec false) k j4) fun m j5=>some (.ok (.mk 4 x (faP T len i) (laP T j5) [s,m],j5))
def headQ (k i:Nat) (g:List UInt8→Nd→Nd→Nat→Option (Oc Nd)):Option (Oc Nd) :=
  jaf (some (jbx T len jed i)) fun _ j=>jaf (some (jeb T len j)) fun x j2=>jaf (jk8 T len (fun q=>some (jg0 T len q)) k j2) fun a j3=>jaf (optQ T (fun q=>some (typO T len q)) [58] j3) fun e j4=>g x a e j4
def funcQ (k i:Nat):Option (Oc Nd):=headQ T len k i fun x a e j=>jaf (rec .block j) fun b j2=>some (.ok (.mk 5 x (faP T len i) (laP T j2) [a,e,jbm [b] b.at_],j2))
def sigQ (k i:Nat):Option (Oc Nd):=headQ T len k i fun x a e j=>jaf (some (jbx T len [59] j)) fun _ j2=>some (.ok (.mk 5 x (faP T len i) (laP T j2) [a,e,jbm [] (laP T j)],j2))
def blockQ (k i:Nat):Option (Oc Nd):=jaf (jn3 T len (rec .stmt) k i) fun m j=>some (.ok (.mk 9 [] (faP T len i) (laP T j) m.kids,j))
def testQ (i:Nat):Option (Oc Nd):=jaf (some (jbx T len [40] i)) fun _ j=>jaf (rec (.expr 0) j) fun x j2=>jaf (some (jbx T len [41] j2)) fun _ j3=>some (.ok (x,j3))
def retQ (i:Nat):Option (Oc Nd) :=
  jaf (some (jbx T len jdy i)) fun _ j=>jaf (if jbg T j=[59] then some (.ok (je8,j)) else jaf (rec (.expr 0) j) fun x j2=>some (.ok (jdo [x],j2))) fun l j2 =>
    jaf (some (jbx T len [59] j2)) fun _ j3=>some (.ok (.mk 10 [] (faP T len i) (laP T j3) l.kids,j3))
def condQ (i:Nat):Option (Oc Nd) :=
  jaf (some (jbx T len xIf i)) fun _ j=>jaf (testQ T len rec j) fun c j2=>jaf (rec .block j2) fun b j3=>jaf (optQ T (rec .block) jlc j3) fun o j4=>some (.ok (.mk 11 [] (faP T len i) (laP T j4) [c,b,o],j4))
def whileQ (i:Nat):Option (Oc Nd) :=
  jaf (some (jbx T len jgx i)) fun _ j=>jaf (testQ T len rec j) fun c j2=>jaf (rec .block j2) fun b j3=>some (.ok (.mk 12 [] (faP T len i) (laP T j3) [c,b],j3))
def simpleQ (i:Nat):Option (Oc Nd) :=
  jaf (rec (.expr 0) i) fun x j=>if jbg T j=[61] then jaf (rec (.expr 0) (j+1)) fun y j2=>jaf (some (jbx T len [59] j2)) fun _ j3=>some (.ok (.mk 13 [] (faP T len i) (laP T j3) [x,y],j3))
    else jaf (some (jbx T len [59] j)) fun _ j3=>some (.ok (.mk 14 [] (faP T len i) (laP T j3) [x],j3))
def stmtQ (i:Nat):Option (Oc Nd) :=
  if jbg T i=jji then rec .varD i else if jbg T i=[123] then rec .block i else if jbg T i=jdy then retQ T len rec i else if jbg T i=xIf then condQ T len rec i else if jbg T i=jgx then whileQ T len rec i
  else if kT T i=7∨(kT T i=6∧jbg T (i+1)=[59]) then some (jfe T len i) else simpleQ T len rec i
end
section
variable {T:List Tk} {len:Int} {f i:Nat} {r:Nd × Ps}
theorem fix_kind {i:Nat} {x:List UInt8} (hx:x≠[]) (h:jbg T i=x):kT T i=2∨kT T i=5:=by
  unfold jbg at h;split at h
  · assumption
  · exact absurd h.symm hx
theorem st_super (hT:jad T=true) (i:Nat):(∃x j,jjp T len i=.ok (x,j)∧(if jbi T ⟨i,none⟩=7 then jco T len false ⟨i,none⟩ else jel T len ⟨i,none⟩)=(x,⟨j,none⟩))∨(∃a x j,jjp T len i=.error a∧(if jbi T ⟨i,none⟩=7 then jco T len false ⟨i,none⟩ else jel T len ⟨i,none⟩)=(x,⟨j,some a⟩)):=by
  unfold jjp;rw[show jbi T ⟨i,none⟩=kT T i from rfl];by_cases h:kT T i=7
  · rw[if_pos h,if_pos h,jk4 0 (Or.inr h),if_pos h];exact Or.inl ⟨_,_,rfl,rfl⟩
  · rw[if_neg h,if_neg h];exact st_typ hT i
def RowQ (o:Option (Oc (List Nd))) (x:Nd) (s':Ps):Prop:=(∃j,s'=⟨j,none⟩∧o=some (.ok (x.kids,j)))∨(∃j a,s'=⟨j,some a⟩∧o=some (.error a))
theorem types_ser (hT:jad T=true):∀(f i:Nat) (x:Nd) (s':Ps),jaw T len f .types ⟨i,none⟩=some (x,s')→RowQ (jmb T (fun q=>some (jjp T len q)) f i) x s':=by
  intro f
  induction f with
  | zero=>intro i x s' h;cases h
  | succ f ih =>
    intro i x s' h;have h:jh8 T len (jaw T len f) ⟨i,none⟩=some (x,s'):=h;unfold jh8 at h;unfold jmb;rcases st_super (len:=len) hT i with ⟨y,j,e1,e2⟩ | ⟨a,y,j,e1,e2⟩<;>simp only[e1,e2,jaf] at h ⊢
    · simp only[jd5 hT 5 [44] (Or.inr ⟨rfl,rfl⟩),decide_eq_true_eq,jbb] at h;by_cases c:jbg T j=[44]<;>simp only[c,if_true,if_false] at h ⊢
      · obtain ⟨l,s1,h1,h2⟩:=ja2.1 h;cases h2;rcases ih _ _ _ h1 with ⟨q,rfl,hq⟩ | ⟨q,a,rfl,hq⟩<;>simp only[hq,jaf]
        · exact Or.inl ⟨q,rfl,rfl⟩
        · exact Or.inr ⟨q,a,rfl,rfl⟩
      · cases h;exact Or.inl ⟨j,rfl,rfl⟩
    · simp only[jk7 (show (5:Int)≠0 by decide),Bool.false_eq_true,if_false] at h;cases h;exact Or.inr ⟨j,a,rfl,rfl⟩
theorem loop_ser {E:Nat→Option (Oc Nd)} {RS:Nat→Ps→Got} (f:Nat) (h0:∀s,RS 0 s=none)
    (hS:∀g,g<f→∀(i:Nat) (l:Nd) (s':Ps),RS (g+1) ⟨i,none⟩=some (l,s')→(jbg T i=[125]∧l.kids=[]∧s'=⟨i,none⟩) ∨
      (jbg T i≠[125]∧((∃j a,s'=⟨j,some a⟩∧E i=some (.error a))∨(∃x j l',E i=some (.ok (x,j))∧RS g ⟨j,none⟩=some (l',s')∧l.kids=x :: l'.kids)))) :
    ∀g,g≤f→∀(i:Nat) (l:Nd) (s':Ps),RS g ⟨i,none⟩=some (l,s')→(∃j,s'=⟨j,none⟩∧jbg T j=[125]∧jj4 T E g i=some (.ok (l.kids,j+1)))∨(∃j a,s'=⟨j,some a⟩∧jj4 T E g i=some (.error a)):=by
  intro g
  induction g with
  | zero=>intro _ i l s' h;rw[h0] at h;cases h
  | succ g ih =>
    intro hg i l s' h;unfold jj4;rcases hS g (by omega) i l s' h with ⟨h1,h2,rfl⟩ | ⟨h1,⟨j,a,rfl,h2⟩ | ⟨x,j,l',h2,h3,h4⟩⟩
    · rw[if_pos h1,h2];exact Or.inl ⟨i,rfl,h1,rfl⟩
    · rw[if_neg h1,h2];exact Or.inr ⟨j,a,rfl,rfl⟩
    · rw[if_neg h1,h2,h4];rcases ih (by omega) j l' s' h3 with ⟨q,rfl,hq,e⟩ | ⟨q,a,rfl,e⟩
      · exact Or.inl ⟨q,rfl,hq,by simp only[jaf,e]⟩
      · exact Or.inr ⟨q,a,rfl,by simp only[jaf,e]⟩
def jih (T:List Tk) (E:Nat→Option (Oc Nd)) (g j:Nat):Option (Oc (List Nd)):=if jbg T j=[44] then jmb T E g (j+1) else some (.ok ([],j))
theorem jgv (E:Nat→Option (Oc Nd)) (g i:Nat):jmb T E (g+1) i=jaf (E i) fun x j=>jaf (jih T E g j) fun l j2=>some (.ok (x :: l,j2)):=by
  unfold jmb jih;congr 1;funext x j;split<;>rfl
theorem je0 {α β γ:Type} (o:Option (Oc α)) (k:α→Nat→Option (Oc β)) (m:β→Nat→Option (Oc γ)):jaf (jaf o k) m=jaf o fun x j=>jaf (k x j) m:=by
  unfold jaf;rcases o with _ | _ | x<;>rfl
theorem cons_err {x:Nd} {j:Nat} {a:Int} (o:Option (Oc (List Nd))) (ho:(jaf o fun (l:List Nd) j2=>jaf (some (jbx T len [41] j2)) fun _ j3=>some (.ok (l,j3)))=some (.error a)) :
    (jaf (jaf (some (.ok (x,j))) fun (x:Nd) _=>jaf o fun (l:List Nd) j2=>some (.ok (x :: l,j2))) fun (l:List Nd) j2=>jaf (some (jbx T len [41] j2)) fun _ j3=>some (.ok (l,j3)))=some (.error a):=by
  rcases o with _ | b | y
  · cases ho
  · exact ho
  · simp only[jaf] at ho ⊢
    cases hw:jbx T len [41] y.2 with
    | error b=>rw[hw] at ho;exact ho
    | ok z=>rw[hw] at ho;cases ho
theorem par_ser {E:Nat→Option (Oc Nd)} {RS:Nat→Ps→Got} (f:Nat) (h0:∀s,RS 0 s=none)
    (hS:∀g,g<f→∀(i:Nat) (l:Nd) (s':Ps),RS (g+1) ⟨i,none⟩=some (l,s')→(jbg T i=[41]∧l.kids=[]∧s'=⟨i,none⟩) ∨
      (jbg T i≠[41]∧jbg T i≠[44]∧∃j,s'=⟨j,some (faP T len i)⟩) ∨
      (jbg T i=[44]∧((∃j a,s'=⟨j,some a⟩∧E (i+1)=some (.error a))∨(∃x j l',E (i+1)=some (.ok (x,j))∧RS g ⟨j,none⟩=some (l',s')∧l.kids=x :: l'.kids)))) :
    ∀g,g≤f→∀(i:Nat) (l:Nd) (s':Ps),RS g ⟨i,none⟩=some (l,s') →
      (∃j,s'=⟨j,none⟩∧jbg T j=[41]∧jih T E g i=some (.ok (l.kids,j)))∨(∃j a,s'=⟨j,some a⟩∧(jaf (jih T E g i) fun (l:List Nd) j2=>jaf (some (jbx T len [41] j2)) fun _ j3=>some (.ok (l,j3)))=some (.error a)):=by
  intro g
  induction g with
  | zero=>intro _ i l s' h;rw[h0] at h;cases h
  | succ g ih =>
    intro hg i l s' h;rcases hS g (by omega) i l s' h with ⟨h1,h2,rfl⟩ | ⟨h1,h2,j,rfl⟩ | ⟨h1,⟨j,a,rfl,h2⟩ | ⟨x,j,l',h2,h3,h4⟩⟩
    · refine Or.inl ⟨i,rfl,h1,?_⟩;unfold jih;rw[if_neg (by rw[h1];decide),h2]
    · refine Or.inr ⟨j,_,rfl,?_⟩;unfold jih;rw[if_neg h2];simp only[jaf,jn8 h1]
    · refine Or.inr ⟨j,a,rfl,?_⟩;unfold jih;rw[if_pos h1,jgv,h2];try rfl
    · unfold jih;rw[if_pos h1,jgv,h2,h4];rcases ih (by omega) j l' s' h3 with ⟨q,rfl,hq,e⟩ | ⟨q,a,rfl,e⟩
      · exact Or.inl ⟨q,rfl,hq,by simp only[jaf,e]⟩
      · refine Or.inr ⟨q,a,rfl,?_⟩;exact cons_err _ e
end
end
section
section
variable {T:List Tk} {len:Int}
theorem read_mono' {f g:Nat} {nt:NT} {i:Nat} {R:Oc Nd} (h:jbc T len f nt i=some R) (hg:f≤g):jbc T len g nt i=some R:=by
  unfold jbc at h ⊢
  cases hr:jaw T len f nt ⟨i,none⟩ with
  | none=>rw[hr] at h;cases h
  | some r=>rw[hr] at h;rw[jef hr hg];exact h
theorem jkj {f g:Nat} {nt:NT} {i:Nat} {x:Nd} {s':Ps} (hg:f≤g) (h:jaw T len f nt ⟨i,none⟩=some (x,s')):(∃j,s'=⟨j,none⟩∧jbc T len g nt i=some (.ok (x,j)))∨(∃j a,s'=⟨j,some a⟩∧jbc T len g nt i=some (.error a)):=by
  rcases jdl h with ⟨j,rfl,e⟩ | ⟨j,a,rfl,e⟩
  · exact Or.inl ⟨j,rfl,read_mono' e hg⟩
  · exact Or.inr ⟨j,a,rfl,read_mono' e hg⟩
theorem no_var {f i:Nat} (hT:jad T=true) (h:jbg T i≠jji) {R:Oc Nd} (hr:jbc T len f .varD i=some R):R=.error (faP T len i):=by
  cases f with
  | zero=>cases hr
  | succ f =>
    unfold jbc at hr
    cases hp:jaw T len (f+1) .varD ⟨i,none⟩ with
    | none=>rw[hp] at hr;cases hr
    | some r =>
      rw[hp] at hr;have hp:bVar T len (jaw T len f) ⟨i,none⟩=some r:=hp;have:=s_var hT hp;unfold varQ at this;rw[jn8 h] at this;injection hr with hr;injection this with this;rw[←hr,←this]
theorem s_decl (hT:jad T=true) {f i:Nat} {r:Nd × Ps} (h:jl8 T (jaw T len f) ⟨i,none⟩=some r):declQ T len (jbc T len f) i=some (ocN r):=by
  unfold jl8 at h;unfold declQ;simp only[jd5 hT 2 jeo (Or.inl ⟨rfl,rfl⟩),jd5 hT 2 jey (Or.inl ⟨rfl,rfl⟩),jd5 hT 2 jed (Or.inl ⟨rfl,rfl⟩),decide_eq_true_eq] at h;(have key:∀nt,jaw T len f nt ⟨i,none⟩=some r→jbc T len f nt i=some (ocN r):=fun nt h=>by unfold jbc;rw[h];rfl);split
  · rename_i c;rw[if_pos c] at h;exact key _ h
  · rename_i c;rw[if_neg c] at h;split
    · rename_i c;rw[if_pos c] at h;exact key _ h
    · rename_i c;rw[if_neg c] at h;split
      · rename_i c;rw[if_pos c] at h;exact key _ h
      · rename_i c;rw[if_neg c] at h;split
        · exact key _ h
        · rename_i c;rw[no_var hT c (key _ h)]
theorem holder_meta (hT:jad T=true) {i:Nat} (h:kT T i=6∨kT T i=7):(∃x j,jfe T len i=.ok (x,j)∧jco T len true ⟨i,none⟩=(x,⟨j,none⟩))∨(∃a x j,jfe T len i=.error a∧jco T len true ⟨i,none⟩=(x,⟨j,some a⟩)):=by
  have hm:jco T len true ⟨i,none⟩=(je3 T (if kT T i=7 then 26 else 25) (tT T i) (faP T len i) [] (jab T len 5 [59] ⟨i+1,none⟩),jab T len 5 [59] ⟨i+1,none⟩):=by
    unfold jco;rw[show jai T len (jbi T ⟨i,none⟩) ⟨i,none⟩=(tT T i,⟨i+1,none⟩) by unfold jai;rw[if_pos rfl];rfl];try rfl
  rw[hm];unfold jfe;rcases h with h | h
  · rw[if_pos h,if_neg (show ¬kT T i=7 by omega)];rcases jdn (len:=len) hT 5 [59] (Or.inr ⟨rfl,rfl⟩) (i+1) with ⟨j,e1,e2⟩ | ⟨a,j,e1,e2⟩<;>simp only[e1,e2,jht]
    · exact Or.inl ⟨_,_,rfl,rfl⟩
    · exact Or.inr ⟨_,_,_,rfl,rfl⟩
  · rw[if_neg (show ¬kT T i=6 by omega),if_pos h,if_pos h];rcases jdn (len:=len) hT 5 [59] (Or.inr ⟨rfl,rfl⟩) (i+1) with ⟨j,e1,e2⟩ | ⟨a,j,e1,e2⟩<;>simp only[e1,e2,jht]
    · exact Or.inl ⟨_,_,rfl,rfl⟩
    · exact Or.inr ⟨_,_,_,rfl,rfl⟩
theorem read_badS {f:Nat} {nt:NT} {s s':Ps} {n:Nd} (hs:s.bad.isSome=true) (h:jaw T len f nt s=some (n,s')):s'=s:=(jep h).1.stay hs
theorem mem_ser (hT:jad T=true) (cls:Bool) (f:Nat):∀g,g≤f→∀(i:Nat) (l:Nd) (s':Ps),jaw T len g (.members cls) ⟨i,none⟩=some (l,s') →
    (∃j,s'=⟨j,none⟩∧jbg T j=[125]∧jj4 T (jm2 T len (jbc T len f) cls) g i=some (.ok (l.kids,j+1)))∨(∃j a,s'=⟨j,some a⟩∧jj4 T (jm2 T len (jbc T len f) cls) g i=some (.error a)):=by
  refine loop_ser (RS:=fun g s=>jaw T len g (.members cls) s) f (fun _=>rfl) ?_;intro g hg i l s' h;have h:jev T len (jaw T len g) cls ⟨i,none⟩=some (l,s'):=h;unfold jev at h;simp only[jd5 hT 5 [125] (Or.inr ⟨rfl,rfl⟩),jd5 hT 2 jed (Or.inl ⟨rfl,rfl⟩),decide_eq_true_eq,Option.isSome,Bool.false_eq_true,false_or,show jbi T ⟨i,none⟩=kT T i from rfl] at h;by_cases c1:jbg T i=[125]
  · rw[if_pos c1] at h;cases h;exact Or.inl ⟨c1,rfl,rfl⟩
  rw[if_neg c1] at h;refine Or.inr ⟨c1,?_⟩
  have next:∀{x y:Nd} {s1:Ps} {F:Nd→Ps→Got},(∀l s2,F l s2=some (jen x l,s2))→thenP (jaw T len g (.members cls) s1) F=some (l,s')→((∃j,s1=⟨j,none⟩∧jm2 T len (jbc T len f) cls i=some (.ok (x,j)))∨(∃j a,s1=⟨j,some a⟩∧jm2 T len (jbc T len f) cls i=some (.error a))) →
      ((∃j a,s'=⟨j,some a⟩∧jm2 T len (jbc T len f) cls i=some (.error a))∨(∃x j l',jm2 T len (jbc T len f) cls i=some (.ok (x,j))∧jaw T len g (.members cls) ⟨j,none⟩=some (l',s')∧l.kids=x :: l'.kids)):=by
    intro x y s1 F hF h hx;obtain ⟨l',s2,h1,h2⟩:=ja2.1 h;rw[hF] at h2;cases h2;rcases hx with ⟨j,rfl,e⟩ | ⟨j,a,rfl,e⟩
    · exact Or.inr ⟨x,j,l',e,h1,rfl⟩
    · obtain rfl:=jcq h1;exact Or.inl ⟨j,a,rfl,e⟩
  by_cases c2:kT T i=6∨kT T i=7
  · rw[if_pos c2] at h;(have cf:jbg T i≠jed:=fun e=>by have:=fix_kind (by decide) e;omega);(have cv:jbg T i≠jji:=fun e=>by have:=fix_kind (by decide) e;omega);(have em:jm2 T len (jbc T len f) cls i=some (jfe T len i):=by unfold jm2;rw[if_neg cf,if_neg (fun h=>cv h.2)]);refine next (y:=je8) (fun _ _=>rfl) h ?_;rw[em];rcases holder_meta (len:=len) hT c2 with ⟨x,j,e1,e2⟩ | ⟨a,x,j,e1,e2⟩
    · exact Or.inl ⟨j,by rw[e2],by rw[e1,e2]⟩
    · exact Or.inr ⟨j,a,by rw[e2],by rw[e1]⟩
  rw[if_neg c2] at h;by_cases c3:jbg T i=jed
  · rw[if_pos c3] at h;obtain ⟨x,s1,h1,h2⟩:=ja2.1 h;(have em:jm2 T len (jbc T len f) cls i=jbc T len f (.funcD cls) i:=by unfold jm2;rw[if_pos c3]);refine next (y:=je8) (fun _ _=>rfl) h2 ?_;rw[em];exact jkj (Nat.le_of_lt hg) h1
  rw[if_neg c3] at h
  cases cls with
  | true =>
    rw[if_pos rfl] at h;obtain ⟨x,s1,h1,h2⟩:=ja2.1 h;refine next (y:=je8) (fun _ _=>rfl) h2 ?_;have hr:=jkj (Nat.le_of_lt hg) h1;by_cases c4:jbg T i=jji
    · rw[show jm2 T len (jbc T len f) true i=jbc T len f .varD i by unfold jm2;rw[if_neg c3,if_pos ⟨rfl,c4⟩]];exact hr
    · rw[show jm2 T len (jbc T len f) true i=some (.error (faP T len i)) by unfold jm2 jfe;rw[if_neg c3,if_neg (fun h=>c4 h.2),if_neg (fun e=>c2 (Or.inl e)),if_neg (fun e=>c2 (Or.inr e))]];rcases hr with ⟨j,-,e⟩ | ⟨j,a,h,e⟩
      · cases no_var hT c4 e
      · cases no_var hT c4 e;exact Or.inr ⟨j,_,h,rfl⟩
  | false =>
    rw[if_neg (by decide)] at h;(have em:jm2 T len (jbc T len f) false i=some (.error (faP T len i)):=by unfold jm2 jfe;rw[if_neg c3,if_neg (fun h=>by cases h.1),if_neg (fun e=>c2 (Or.inl e)),if_neg (fun e=>c2 (Or.inr e))]);have hf:jgg T len ⟨i,none⟩=⟨i,some (faP T len i)⟩:=rfl;rw[hf] at h;obtain rfl:=jcq h;exact Or.inl ⟨i,_,rfl,em⟩
theorem s_iface (hT:jad T=true) {f i:Nat} {r:Nd × Ps} (h:jjf T len (jaw T len f) ⟨i,none⟩=some r):ifaceQ T len (jbc T len f) f i=some (ocN r):=by
  unfold jjf at h;unfold ifaceQ;rcases jdn (len:=len) hT 2 jey (Or.inl ⟨rfl,rfl⟩) i with ⟨j1,e1,e2⟩ | ⟨a,j1,e1,e2⟩<;>simp only[e1,e2,jaf] at h ⊢
  rotate_left
  · (try simp only[fltI,fltW,Bool.false_eq_true,if_false,if_true,jjl] at h);(repeat (obtain ⟨_,_,zz,h⟩:=ja2.1 h;(first | (have e:=jcq zz;subst e) | (cases zz) | (obtain ⟨_,_,zy,zz⟩:=ja2.1 zz;have e:=jcq zy;subst e;cases zz));try simp only[fltI,fltW,Bool.false_eq_true,if_false,if_true,jjl] at h));(injection h with h);subst h;first | rfl | simp only[ocN,jkr,jnl]
  clear e1 e2;rcases jjq (T:=T) (len:=len) j1 with ⟨x,j2,e1,e2⟩ | ⟨a,x,j2,e1,e2⟩<;>simp only[e1,e2,jaf] at h ⊢
  rotate_left
  · (try simp only[fltI,fltW,Bool.false_eq_true,if_false,if_true,jjl] at h);(repeat (obtain ⟨_,_,zz,h⟩:=ja2.1 h;(first | (have e:=jcq zz;subst e) | (cases zz) | (obtain ⟨_,_,zy,zz⟩:=ja2.1 zz;have e:=jcq zy;subst e;cases zz));try simp only[fltI,fltW,Bool.false_eq_true,if_false,if_true,jjl] at h));(injection h with h);subst h;first | rfl | simp only[ocN,jkr,jnl]
  clear e1 e2
  have hb:∀(B:Nd) (q:Nat) (hh:jjl T len (jaw T len f) 4 x (jaq T len ⟨i,none⟩) [B] false (jab T len 5 [123] ⟨q,none⟩)=some r),jaf (jn3 T len (jm2 T len (jbc T len f) false) f q) (fun m j5=>some (.ok (.mk 4 x (faP T len i) (laP T j5) ([B]++[m]),j5)))=some (ocN r):=by
    intro B q hh;unfold jn3;rcases jdn (len:=len) hT 5 [123] (Or.inr ⟨rfl,rfl⟩) q with ⟨q2,e1,e2⟩ | ⟨a,q2,e1,e2⟩<;>simp only[e1,e2,jaf] at hh ⊢
    · unfold jjl at hh;obtain ⟨l,s1,h1,h2⟩:=ja2.1 hh;rcases mem_ser hT false f f (Nat.le_refl f) q2 l s1 h1 with ⟨q3,rfl,hq,e⟩ | ⟨q3,a,rfl,e⟩
      · rw[e];rw[jg3 hT 5 [125] (Or.inr ⟨rfl,rfl⟩),if_pos hq] at h2;cases h2;rfl
      · rw[e];rw[jdf (by decide)] at h2;cases h2;rfl
    · (try simp only[fltI,fltW,Bool.false_eq_true,if_false,if_true,jjl] at hh);(repeat (obtain ⟨_,_,zz,hh⟩:=ja2.1 hh;(first | (have e:=jcq zz;subst e) | (cases zz) | (obtain ⟨_,_,zy,zz⟩:=ja2.1 zz;have e:=jcq zy;subst e;cases zz));try simp only[fltI,fltW,Bool.false_eq_true,if_false,if_true,jjl] at hh));(injection hh with hh);subst hh;first | rfl | simp only[ocN,jkr,jnl]
  unfold jkt;simp only[jd5 hT 2 jmr (Or.inl ⟨rfl,rfl⟩),decide_eq_true_eq,jbb] at h ⊢;by_cases c:jbg T j2=jmr<;>simp only[c,if_true,if_false] at h ⊢
  · obtain ⟨b,s4,h1,h2⟩:=ja2.1 h;rcases types_ser hT f _ b s4 h1 with ⟨q,rfl,e⟩ | ⟨q,a,rfl,e⟩<;>simp only[e,jaf]
    · exact hb (jbm b.kids (jao T ⟨j2,none⟩)) q h2
    · (try simp only[fltI,fltW,Bool.false_eq_true,if_false,if_true,jjl] at h2);(repeat (obtain ⟨_,_,zz,h2⟩:=ja2.1 h2;(first | (have e:=jcq zz;subst e) | (cases zz) | (obtain ⟨_,_,zy,zz⟩:=ja2.1 zz;have e:=jcq zy;subst e;cases zz));try simp only[fltI,fltW,Bool.false_eq_true,if_false,if_true,jjl] at h2));(injection h2 with h2);subst h2;first | rfl | simp only[ocN,jkr,jnl]
  · exact hb (jbm [] (jao T ⟨j2,none⟩)) j2 h
end
end
end Go.Proofs.YtonoklmobocikaaGreatDoor
