/- Lemmas. -/
import Derived.Test.YtonoklmobocikaaGreatDoorK09
set_option linter.unusedVariables false
set_option linter.unusedSimpArgs false
set_option maxRecDepth 20000
set_option maxHeartbeats 6400000
namespace Go.Proofs.YtonoklmobocikaaGreatDoor
section
section
variable {T:List Tk} {len:Int}
theorem s_class (hT:jad T=true) {f i:Nat} {r:Nd × Ps} (h:jjg T len (jaw T len f) ⟨i,none⟩=some r):classQ T len (jbc T len f) f i=some (ocN r):=by
  unfold jjg at h;unfold classQ;rcases jdn (len:=len) hT 2 jeo (Or.inl ⟨rfl,rfl⟩) i with ⟨j1,e1,e2⟩ | ⟨a,j1,e1,e2⟩<;>simp only[e1,e2,jaf] at h ⊢
  rotate_left
  · (try simp only[fltI,fltW,Bool.false_eq_true,if_false,if_true,jjl] at h);(repeat (obtain ⟨_,_,zz,h⟩:=ja2.1 h;(first | (have e:=jcq zz;subst e) | (cases zz) | (obtain ⟨_,_,zy,zz⟩:=ja2.1 zz;have e:=jcq zy;subst e;cases zz));try simp only[fltI,fltW,Bool.false_eq_true,if_false,if_true,jjl] at h));(injection h with h);subst h;first | rfl | simp only[ocN,jkr,jnl]
  clear e1 e2;rcases jjq (T:=T) (len:=len) j1 with ⟨x,j2,e1,e2⟩ | ⟨a,x,j2,e1,e2⟩<;>simp only[e1,e2,jaf] at h ⊢
  rotate_left
  · (try simp only[fltI,fltW,Bool.false_eq_true,if_false,if_true,jjl] at h);(repeat (obtain ⟨_,_,zz,h⟩:=ja2.1 h;(first | (have e:=jcq zz;subst e) | (cases zz) | (obtain ⟨_,_,zy,zz⟩:=ja2.1 zz;have e:=jcq zy;subst e;cases zz));try simp only[fltI,fltW,Bool.false_eq_true,if_false,if_true,jjl] at h));(injection h with h);subst h;first | rfl | simp only[ocN,jkr,jnl]
  clear e1 e2
  have hb:∀(B C:Nd) (q:Nat) (hh:jjl T len (jaw T len f) 3 x (jaq T len ⟨i,none⟩) [B,C] true (jab T len 5 [123] ⟨q,none⟩)=some r),jaf (jn3 T len (jm2 T len (jbc T len f) true) f q) (fun m j5=>some (.ok (.mk 3 x (faP T len i) (laP T j5) ([B,C,m]),j5)))=some (ocN r):=by
    intro B C q hh;unfold jn3;rcases jdn (len:=len) hT 5 [123] (Or.inr ⟨rfl,rfl⟩) q with ⟨q2,e1,e2⟩ | ⟨a,q2,e1,e2⟩<;>simp only[e1,e2,jaf] at hh ⊢
    · unfold jjl at hh;obtain ⟨l,s1,h1,h2⟩:=ja2.1 hh;rcases mem_ser hT true f f (Nat.le_refl f) q2 l s1 h1 with ⟨q3,rfl,hq,e⟩ | ⟨q3,a,rfl,e⟩
      · rw[e];rw[jg3 hT 5 [125] (Or.inr ⟨rfl,rfl⟩),if_pos hq] at h2;cases h2;rfl
      · rw[e];rw[jdf (by decide)] at h2;cases h2;rfl
    · (try simp only[fltI,fltW,Bool.false_eq_true,if_false,if_true,jjl] at hh);(repeat (obtain ⟨_,_,zz,hh⟩:=ja2.1 hh;(first | (have e:=jcq zz;subst e) | (cases zz) | (obtain ⟨_,_,zy,zz⟩:=ja2.1 zz;have e:=jcq zy;subst e;cases zz));try simp only[fltI,fltW,Bool.false_eq_true,if_false,if_true,jjl] at hh));(injection hh with hh);subst hh;first | rfl | simp only[ocN,jkr,jnl]
  unfold optQ;simp only[jd5 hT 2 jmr (Or.inl ⟨rfl,rfl⟩),decide_eq_true_eq,jbb] at h ⊢;by_cases c0:jbg T j2=jmr<;>simp only[c0,if_true,if_false] at h ⊢
  · rcases st_typ (len:=len) hT (j2+1) with ⟨t,j3,e1,e2⟩ | ⟨a,t,j3,e1,e2⟩<;>simp only[e1,e2,jaf] at h ⊢
    · unfold jkt;simp only[jd5 hT 2 jis (Or.inl ⟨rfl,rfl⟩),decide_eq_true_eq,jbb] at h ⊢;by_cases c:jbg T j3=jis<;>simp only[c,if_true,if_false] at h ⊢
      · obtain ⟨b,s4,h1,h2⟩:=ja2.1 h;rcases types_ser hT f _ b s4 h1 with ⟨q,rfl,e⟩ | ⟨q,a,rfl,e⟩<;>simp only[e,jaf]
        · exact hb (jbm [t] (jao T ⟨j2,none⟩)) (jbm b.kids (jao T ⟨j3,none⟩)) q h2
        · (try simp only[fltI,fltW,Bool.false_eq_true,if_false,if_true,jjl] at h2);(repeat (obtain ⟨_,_,zz,h2⟩:=ja2.1 h2;(first | (have e:=jcq zz;subst e) | (cases zz) | (obtain ⟨_,_,zy,zz⟩:=ja2.1 zz;have e:=jcq zy;subst e;cases zz));try simp only[fltI,fltW,Bool.false_eq_true,if_false,if_true,jjl] at h2));(injection h2 with h2);subst h2;first | rfl | simp only[ocN,jkr,jnl]
      · exact hb (jbm [t] (jao T ⟨j2,none⟩)) (jbm [] (jao T ⟨j3,none⟩)) j3 h
    · (try simp only[fltI,fltW,Bool.false_eq_true,if_false,if_true,jjl] at h);(repeat (obtain ⟨_,_,zz,h⟩:=ja2.1 h;(first | (have e:=jcq zz;subst e) | (cases zz) | (obtain ⟨_,_,zy,zz⟩:=ja2.1 zz;have e:=jcq zy;subst e;cases zz));try simp only[fltI,fltW,Bool.false_eq_true,if_false,if_true,jjl] at h));(injection h with h);subst h;first | rfl | simp only[ocN,jkr,jnl]
  · unfold jkt;simp only[jd5 hT 2 jis (Or.inl ⟨rfl,rfl⟩),decide_eq_true_eq,jbb,jaf] at h ⊢;by_cases c:jbg T j2=jis<;>simp only[c,if_true,if_false] at h ⊢
    · obtain ⟨b,s4,h1,h2⟩:=ja2.1 h;rcases types_ser hT f _ b s4 h1 with ⟨q,rfl,e⟩ | ⟨q,a,rfl,e⟩<;>simp only[e,jaf]
      · exact hb (jbm [] (jao T ⟨j2,none⟩)) (jbm b.kids (jao T ⟨j2,none⟩)) q h2
      · (try simp only[fltI,fltW,Bool.false_eq_true,if_false,if_true,jjl] at h2);(repeat (obtain ⟨_,_,zz,h2⟩:=ja2.1 h2;(first | (have e:=jcq zz;subst e) | (cases zz) | (obtain ⟨_,_,zy,zz⟩:=ja2.1 zz;have e:=jcq zy;subst e;cases zz));try simp only[fltI,fltW,Bool.false_eq_true,if_false,if_true,jjl] at h2));(injection h2 with h2);subst h2;first | rfl | simp only[ocN,jkr,jnl]
    · exact hb (jbm [] (jao T ⟨j2,none⟩)) (jbm [] (jao T ⟨j2,none⟩)) j2 h
theorem st_param (hT:jad T=true) (i:Nat):(∃x j,jg0 T len i=.ok (x,j)∧jdm T len ⟨i,none⟩=(x,⟨j,none⟩))∨(∃a x j,jg0 T len i=.error a∧jdm T len ⟨i,none⟩=(x,⟨j,some a⟩)):=by
  unfold jg0 jdm;rw[show jbi T ⟨i,none⟩=kT T i from rfl];by_cases h:kT T i=7
  · rw[if_pos h,if_pos h,jk4 0 (Or.inr h),if_pos h];exact Or.inl ⟨_,_,rfl,rfl⟩
  · rw[if_neg h,if_neg h];rcases jjq (T:=T) (len:=len) i with ⟨x,j,e1,e2⟩ | ⟨a,x,j,e1,e2⟩<;>simp only[e1,e2,jht]
    · rcases jdn (len:=len) hT 5 [58] (Or.inr ⟨rfl,rfl⟩) j with ⟨j2,e1,e2⟩ | ⟨a,j2,e1,e2⟩<;>simp only[e1,e2]
      · rcases st_typ (len:=len) hT j2 with ⟨t,j3,e1,e2⟩ | ⟨a,t,j3,e1,e2⟩<;>simp only[e1,e2]
        · exact Or.inl ⟨_,_,rfl,rfl⟩
        · exact Or.inr ⟨_,_,_,rfl,rfl⟩
      · exact Or.inr ⟨_,_,_,rfl,by rw[jkr]⟩
    · exact Or.inr ⟨_,_,_,rfl,by rw[jdf (by decide),jkr]⟩
theorem param_bad (i:Nat) (a:Int):(jdm T len ⟨i,some a⟩).2=⟨i,some a⟩:=by
  unfold jdm;rw[if_neg (show ¬jbi T ⟨i,some a⟩=7 from by show ¬(0:Int)=7;decide)];simp only[jna (show (1:Int)≠0 by decide),jdf (show (5:Int)≠0 by decide),jkr]
theorem params_rest (hT:jad T=true) (f:Nat):∀g,g≤f→∀(i:Nat) (l:Nd) (s':Ps),jaw T len g (.params false) ⟨i,none⟩=some (l,s') →
    (∃j,s'=⟨j,none⟩∧jbg T j=[41]∧jih T (fun q=>some (jg0 T len q)) g i=some (.ok (l.kids,j))) ∨
    (∃j a,s'=⟨j,some a⟩∧(jaf (jih T (fun q=>some (jg0 T len q)) g i) fun (l:List Nd) j2=>jaf (some (jbx T len [41] j2)) fun _ j3=>some (.ok (l,j3)))=some (.error a)):=by
  refine par_ser (RS:=fun g s=>jaw T len g (.params false) s) f (fun _=>rfl) ?_;intro g hg i l s' h;have h:jfl T len (jaw T len g) false ⟨i,none⟩=some (l,s'):=h;unfold jfl at h;simp only[jd5 hT 5 [41] (Or.inr ⟨rfl,rfl⟩),decide_eq_true_eq,Option.isSome,Bool.false_eq_true,false_or,if_false] at h;by_cases c1:jbg T i=[41]
  · rw[if_pos c1] at h;cases h;exact Or.inl ⟨c1,rfl,rfl⟩
  rw[if_neg c1,jg3 hT 5 [44] (Or.inr ⟨rfl,rfl⟩)] at h;by_cases c2:jbg T i=[44]
  · rw[if_pos c2] at h;refine Or.inr (Or.inr ⟨c2,?_⟩);rcases st_param (len:=len) hT (i+1) with ⟨x,j,e1,e2⟩ | ⟨a,x,j,e1,e2⟩<;>simp only[e1,e2] at h ⊢
    · obtain ⟨l',s2,h1,h2⟩:=ja2.1 h;cases h2;exact Or.inr ⟨x,j,l',rfl,h1,rfl⟩
    · obtain ⟨l',s2,h1,h2⟩:=ja2.1 h;obtain rfl:=jcq h1;cases h2;exact Or.inl ⟨j,a,rfl,rfl⟩
  · rw[if_neg c2] at h;obtain ⟨l',s2,h1,h2⟩:=ja2.1 h;rw[param_bad] at h1;obtain rfl:=jcq h1;cases h2;exact Or.inr (Or.inl ⟨c1,c2,i,rfl⟩)
theorem serQ_more (E:Nat→Option (Oc Nd)):∀k i R,jmb T E k i=some R→jmb T E (k+1) i=some R:=by
  intro k
  induction k with
  | zero=>intro i R h;cases h
  | succ k ih =>
    intro i R h;rw[jgv] at h ⊢;unfold jaf at h ⊢
    cases hE:E i with
    | none=>rw[hE] at h;cases h
    | some y =>
      rw[hE] at h
      cases y with
      | error a=>exact h
      | ok x =>
        dsimp only at h ⊢;unfold jih at h ⊢;by_cases c:jbg T x.2=[44]
        · rw[if_pos c] at h ⊢
          cases hs:jmb T E k (x.2+1) with
          | none=>rw[hs] at h;cases h
          | some z=>rw[ih _ _ hs];rw[hs] at h;exact h
        · rw[if_neg c] at h ⊢;exact h
theorem params_par (hT:jad T=true) (f i:Nat) (l:Nd) (s':Ps) (h:jaw T len f (.params true) ⟨i,none⟩=some (l,s')) :
    (∃j,s'=⟨j,none⟩∧jbg T j=[41]∧(if jbg T i=[41] then some (.ok ([],i+1)) else jaf (jmb T (fun q=>some (jg0 T len q)) f i) fun (l:List Nd) j2=>jaf (some (jbx T len [41] j2)) fun _ j3=>some (.ok (l,j3)))=some (Except.ok (l.kids,j+1))) ∨
    (∃j a,s'=⟨j,some a⟩∧(if jbg T i=[41] then some (.ok ([],i+1)) else jaf (jmb T (fun q=>some (jg0 T len q)) f i) fun (l:List Nd) j2=>jaf (some (jbx T len [41] j2)) fun _ j3=>some (.ok (l,j3)))=some (Except.error a)):=by
  cases f with
  | zero=>cases h
  | succ f =>
    have h:jfl T len (jaw T len f) true ⟨i,none⟩=some (l,s'):=h;unfold jfl at h;simp only[jd5 hT 5 [41] (Or.inr ⟨rfl,rfl⟩),decide_eq_true_eq,Option.isSome,Bool.false_eq_true,false_or,if_true] at h;by_cases c1:jbg T i=[41]
    · rw[if_pos c1] at h;cases h;rw[if_pos c1];exact Or.inl ⟨i,rfl,c1,rfl⟩
    rw[if_neg c1] at h;rw[if_neg c1,jgv];rcases st_param (len:=len) hT i with ⟨x,j,e1,e2⟩ | ⟨a,x,j,e1,e2⟩<;>simp only[e1,e2] at h ⊢
    · obtain ⟨l',s2,h1,h2⟩:=ja2.1 h;cases h2;rcases params_rest hT f f (Nat.le_refl f) j l' _ h1 with ⟨q,rfl,hq,e⟩ | ⟨q,a,rfl,e⟩
      · refine Or.inl ⟨q,rfl,hq,?_⟩;simp only[jaf,e,jfq hq];rfl
      · refine Or.inr ⟨q,a,rfl,?_⟩;exact cons_err _ e
    · obtain ⟨l',s2,h1,h2⟩:=ja2.1 h;obtain rfl:=jcq h1;cases h2;exact Or.inr ⟨j,a,rfl,rfl⟩
theorem s_func (hT:jad T=true) {f i:Nat} {r:Nd × Ps} (h:jl6 T len (jaw T len f) true ⟨i,none⟩=some r):funcQ T len (jbc T len f) f i=some (ocN r):=by
  unfold jl6 at h;unfold funcQ headQ;rcases jdn (len:=len) hT 2 jed (Or.inl ⟨rfl,rfl⟩) i with ⟨j1,e1,e2⟩ | ⟨a,j1,e1,e2⟩<;>simp only[e1,e2,jaf] at h ⊢
  rotate_left
  · (try simp only[fltI,fltW,Bool.false_eq_true,if_false,if_true,jjl] at h);(repeat (obtain ⟨_,_,zz,h⟩:=ja2.1 h;(first | (have e:=jcq zz;subst e) | (cases zz) | (obtain ⟨_,_,zy,zz⟩:=ja2.1 zz;have e:=jcq zy;subst e;cases zz));try simp only[fltI,fltW,Bool.false_eq_true,if_false,if_true,jjl] at h));(injection h with h);subst h;first | rfl | simp only[ocN,jkr,jnl]
  clear e1 e2;rcases jjq (T:=T) (len:=len) j1 with ⟨x,j2,e1,e2⟩ | ⟨a,x,j2,e1,e2⟩<;>simp only[e1,e2] at h ⊢
  rotate_left
  · (try simp only[fltI,fltW,Bool.false_eq_true,if_false,if_true,jjl] at h);(repeat (obtain ⟨_,_,zz,h⟩:=ja2.1 h;(first | (have e:=jcq zz;subst e) | (cases zz) | (obtain ⟨_,_,zy,zz⟩:=ja2.1 zz;have e:=jcq zy;subst e;cases zz));try simp only[fltI,fltW,Bool.false_eq_true,if_false,if_true,jjl] at h));(injection h with h);subst h;first | rfl | simp only[ocN,jkr,jnl]
  clear e1 e2;unfold jk8;rcases jdn (len:=len) hT 5 [40] (Or.inr ⟨rfl,rfl⟩) j2 with ⟨j3,e1,e2⟩ | ⟨a,j3,e1,e2⟩<;>simp only[e1,e2,jaf] at h ⊢
  rotate_left
  · (try simp only[fltI,fltW,Bool.false_eq_true,if_false,if_true,jjl] at h);(repeat (obtain ⟨_,_,zz,h⟩:=ja2.1 h;(first | (have e:=jcq zz;subst e) | (cases zz) | (obtain ⟨_,_,zy,zz⟩:=ja2.1 zz;have e:=jcq zy;subst e;cases zz));try simp only[fltI,fltW,Bool.false_eq_true,if_false,if_true,jjl] at h));(injection h with h);subst h;first | rfl | simp only[ocN,jkr,jnl]
  clear e1 e2;obtain ⟨p,s4,h1,h2⟩:=ja2.1 h;clear h
  have hp:∀(o:Option (Oc (List Nd))) ,o=(if jbg T j3=[41] then some (.ok ([],j3+1)) else jaf (jmb T (fun q=>some (jg0 T len q)) f j3) fun (l:List Nd) j2=>jaf (some (jbx T len [41] j2)) fun _ j3=>some (.ok (l,j3))) →
      (if jbg T j3=[41] then some (.ok (jbm [] (laP T j3),j3+1)) else jaf (jmb T (fun q=>some (jg0 T len q)) f j3) fun (l:List Nd) j2=>jaf (some (jbx T len [41] j2)) fun _ j4=>some (.ok (jbm l (laP T j3),j4)))=jaf o fun (l:List Nd) j=>some (Except.ok (jbm l (laP T j3),j)):=by
    intro o ho;subst ho;by_cases c:jbg T j3=[41]
    · rw[if_pos c,if_pos c];try rfl
    · rw[if_neg c,if_neg c,je0];congr 1;funext l j;rw[je0];try rfl
  have hp:=hp _ rfl;simp only[jaf] at hp;rcases params_par hT f j3 p s4 h1 with ⟨q,rfl,hq,e⟩ | ⟨q,a,rfl,e⟩<;>simp only[jaf] at e
  · rw[e] at hp;simp only[hp];rw[jg3 hT 5 [41] (Or.inr ⟨rfl,rfl⟩),if_pos hq] at h2;unfold optQ;simp only[jd5 hT 5 [58] (Or.inr ⟨rfl,rfl⟩),decide_eq_true_eq,jbb] at h2 ⊢;by_cases c0:jbg T (q+1)=[58]<;>simp only[c0,if_true,if_false,jaf] at h2 ⊢
    · rcases st_typ (len:=len) hT (q+1+1) with ⟨t,j4,e1,e2⟩ | ⟨a,t,j4,e1,e2⟩<;>simp only[e1,e2] at h2 ⊢
      · obtain ⟨b,s7,h5,h6⟩:=ja2.1 h2;(try simp only[if_true] at h5);obtain ⟨y,s8,h7,h8⟩:=ja2.1 h5;cases h8;rcases jdl h7 with ⟨q5,rfl,e3⟩ | ⟨q5,a,rfl,e3⟩<;>simp only[e3,jaf]
        · cases h6;rfl
        · cases h6;rfl
      · (try simp only[fltI,fltW,Bool.false_eq_true,if_false,if_true,jjl] at h2);(repeat (obtain ⟨_,_,zz,h2⟩:=ja2.1 h2;(first | (have e:=jcq zz;subst e) | (cases zz) | (obtain ⟨_,_,zy,zz⟩:=ja2.1 zz;have e:=jcq zy;subst e;cases zz));try simp only[fltI,fltW,Bool.false_eq_true,if_false,if_true,jjl] at h2));(injection h2 with h2);subst h2;first | rfl | simp only[ocN,jkr,jnl]
    · obtain ⟨b,s7,h5,h6⟩:=ja2.1 h2;(try simp only[if_true] at h5);obtain ⟨y,s8,h7,h8⟩:=ja2.1 h5;cases h8;rcases jdl h7 with ⟨q5,rfl,e3⟩ | ⟨q5,a,rfl,e3⟩<;>simp only[e3,jaf]
      · cases h6;rfl
      · cases h6;rfl
  · rw[e] at hp;simp only[hp];rw[jdf (by decide)] at h2
    (try simp only[fltI,fltW,Bool.false_eq_true,if_false,if_true,jjl] at h2);(repeat (obtain ⟨_,_,zz,h2⟩:=ja2.1 h2;(first | (have e:=jcq zz;subst e) | (cases zz) | (obtain ⟨_,_,zy,zz⟩:=ja2.1 zz;have e:=jcq zy;subst e;cases zz));try simp only[fltI,fltW,Bool.false_eq_true,if_false,if_true,jjl] at h2));(injection h2 with h2);subst h2;first | rfl | simp only[ocN,jkr,jnl]
theorem s_sig (hT:jad T=true) {f i:Nat} {r:Nd × Ps} (h:jl6 T len (jaw T len f) false ⟨i,none⟩=some r):sigQ T len f i=some (ocN r):=by
  unfold jl6 at h;unfold sigQ headQ;rcases jdn (len:=len) hT 2 jed (Or.inl ⟨rfl,rfl⟩) i with ⟨j1,e1,e2⟩ | ⟨a,j1,e1,e2⟩<;>simp only[e1,e2,jaf] at h ⊢
  rotate_left
  · (try simp only[fltI,fltW,Bool.false_eq_true,if_false,if_true,jjl] at h);(repeat (obtain ⟨_,_,zz,h⟩:=ja2.1 h;(first | (have e:=jcq zz;subst e) | (cases zz) | (obtain ⟨_,_,zy,zz⟩:=ja2.1 zz;have e:=jcq zy;subst e;cases zz));try simp only[fltI,fltW,Bool.false_eq_true,if_false,if_true,jjl] at h));(injection h with h);subst h;first | rfl | simp only[ocN,jkr,jnl]
  clear e1 e2;rcases jjq (T:=T) (len:=len) j1 with ⟨x,j2,e1,e2⟩ | ⟨a,x,j2,e1,e2⟩<;>simp only[e1,e2] at h ⊢
  rotate_left
  · (try simp only[fltI,fltW,Bool.false_eq_true,if_false,if_true,jjl] at h);(repeat (obtain ⟨_,_,zz,h⟩:=ja2.1 h;(first | (have e:=jcq zz;subst e) | (cases zz) | (obtain ⟨_,_,zy,zz⟩:=ja2.1 zz;have e:=jcq zy;subst e;cases zz));try simp only[fltI,fltW,Bool.false_eq_true,if_false,if_true,jjl] at h));(injection h with h);subst h;first | rfl | simp only[ocN,jkr,jnl]
  clear e1 e2;unfold jk8;rcases jdn (len:=len) hT 5 [40] (Or.inr ⟨rfl,rfl⟩) j2 with ⟨j3,e1,e2⟩ | ⟨a,j3,e1,e2⟩<;>simp only[e1,e2,jaf] at h ⊢
  rotate_left
  · (try simp only[fltI,fltW,Bool.false_eq_true,if_false,if_true,jjl] at h);(repeat (obtain ⟨_,_,zz,h⟩:=ja2.1 h;(first | (have e:=jcq zz;subst e) | (cases zz) | (obtain ⟨_,_,zy,zz⟩:=ja2.1 zz;have e:=jcq zy;subst e;cases zz));try simp only[fltI,fltW,Bool.false_eq_true,if_false,if_true,jjl] at h));(injection h with h);subst h;first | rfl | simp only[ocN,jkr,jnl]
  clear e1 e2;obtain ⟨p,s4,h1,h2⟩:=ja2.1 h;clear h
  have hp:∀(o:Option (Oc (List Nd))) ,o=(if jbg T j3=[41] then some (.ok ([],j3+1)) else jaf (jmb T (fun q=>some (jg0 T len q)) f j3) fun (l:List Nd) j2=>jaf (some (jbx T len [41] j2)) fun _ j3=>some (.ok (l,j3))) →
      (if jbg T j3=[41] then some (.ok (jbm [] (laP T j3),j3+1)) else jaf (jmb T (fun q=>some (jg0 T len q)) f j3) fun (l:List Nd) j2=>jaf (some (jbx T len [41] j2)) fun _ j4=>some (.ok (jbm l (laP T j3),j4)))=jaf o fun (l:List Nd) j=>some (Except.ok (jbm l (laP T j3),j)):=by
    intro o ho;subst ho;by_cases c:jbg T j3=[41]
    · rw[if_pos c,if_pos c];try rfl
    · rw[if_neg c,if_neg c,je0];congr 1;funext l j;rw[je0];try rfl
  have hp:=hp _ rfl;simp only[jaf] at hp;rcases params_par hT f j3 p s4 h1 with ⟨q,rfl,hq,e⟩ | ⟨q,a,rfl,e⟩<;>simp only[jaf] at e
  · rw[e] at hp;simp only[hp];rw[jg3 hT 5 [41] (Or.inr ⟨rfl,rfl⟩),if_pos hq] at h2;unfold optQ;simp only[jd5 hT 5 [58] (Or.inr ⟨rfl,rfl⟩),decide_eq_true_eq,jbb] at h2 ⊢;by_cases c0:jbg T (q+1)=[58]<;>simp only[c0,if_true,if_false,jaf] at h2 ⊢
    · rcases st_typ (len:=len) hT (q+1+1) with ⟨t,j4,e1,e2⟩ | ⟨a,t,j4,e1,e2⟩<;>simp only[e1,e2] at h2 ⊢
      · simp only[if_false,Bool.false_eq_true,thenP] at h2;rcases jdn (len:=len) hT 5 [59] (Or.inr ⟨rfl,rfl⟩) j4 with ⟨q5,e3,e4⟩ | ⟨a,q5,e3,e4⟩<;>simp only[e3,e4] at h2 ⊢
        · cases h2;rfl
        · cases h2;rfl
      · (try simp only[fltI,fltW,Bool.false_eq_true,if_false,if_true,jjl] at h2);(repeat (obtain ⟨_,_,zz,h2⟩:=ja2.1 h2;(first | (have e:=jcq zz;subst e) | (cases zz) | (obtain ⟨_,_,zy,zz⟩:=ja2.1 zz;have e:=jcq zy;subst e;cases zz));try simp only[fltI,fltW,Bool.false_eq_true,if_false,if_true,jjl] at h2));(injection h2 with h2);subst h2;first | rfl | simp only[ocN,jkr,jnl]
    · simp only[if_false,Bool.false_eq_true,thenP] at h2;rcases jdn (len:=len) hT 5 [59] (Or.inr ⟨rfl,rfl⟩) (q+1) with ⟨q5,e3,e4⟩ | ⟨a,q5,e3,e4⟩<;>simp only[e3,e4] at h2 ⊢
      · cases h2;rfl
      · cases h2;rfl
  · rw[e] at hp;simp only[hp];rw[jdf (by decide)] at h2
    (try simp only[fltI,fltW,Bool.false_eq_true,if_false,if_true,jjl] at h2);(repeat (obtain ⟨_,_,zz,h2⟩:=ja2.1 h2;(first | (have e:=jcq zz;subst e) | (cases zz) | (obtain ⟨_,_,zy,zz⟩:=ja2.1 zz;have e:=jcq zy;subst e;cases zz));try simp only[fltI,fltW,Bool.false_eq_true,if_false,if_true,jjl] at h2));(injection h2 with h2);subst h2;first | rfl | simp only[ocN,jkr,jnl]
end
end
section
section
variable {T:List Tk} {len:Int}
theorem stmts_ser (hT:jad T=true) (f:Nat):∀g,g≤f→∀(i:Nat) (l:Nd) (s':Ps),jaw T len g .stmts ⟨i,none⟩=some (l,s') →
    (∃j,s'=⟨j,none⟩∧jbg T j=[125]∧jj4 T (jbc T len f .stmt) g i=some (.ok (l.kids,j+1)))∨(∃j a,s'=⟨j,some a⟩∧jj4 T (jbc T len f .stmt) g i=some (.error a)):=by
  refine loop_ser (RS:=fun g s=>jaw T len g .stmts s) f (fun _=>rfl) ?_;intro g hg i l s' h;have h:jio T (jaw T len g) ⟨i,none⟩=some (l,s'):=h;unfold jio at h;simp only[jd5 hT 5 [125] (Or.inr ⟨rfl,rfl⟩),decide_eq_true_eq,Option.isSome,Bool.false_eq_true,false_or] at h;by_cases c1:jbg T i=[125]
  · rw[if_pos c1] at h;cases h;exact Or.inl ⟨c1,rfl,rfl⟩
  rw[if_neg c1] at h;refine Or.inr ⟨c1,?_⟩;obtain ⟨x,s1,h1,h2⟩:=ja2.1 h;obtain ⟨l',s2,h3,h4⟩:=ja2.1 h2;cases h4;rcases jkj (Nat.le_of_lt hg) h1 with ⟨j,rfl,e⟩ | ⟨j,a,rfl,e⟩
  · exact Or.inr ⟨x,j,l',e,h3,rfl⟩
  · obtain rfl:=jcq h3;exact Or.inl ⟨j,a,rfl,e⟩
theorem s_block (hT:jad T=true) {f i:Nat} {r:Nd × Ps} (h:jjh T len (jaw T len f) ⟨i,none⟩=some r):blockQ T len (jbc T len f) f i=some (ocN r):=by
  unfold jjh at h;unfold blockQ jn3;rcases jdn (len:=len) hT 5 [123] (Or.inr ⟨rfl,rfl⟩) i with ⟨q2,e1,e2⟩ | ⟨a,q2,e1,e2⟩<;>simp only[e1,e2,jaf] at h ⊢
  · obtain ⟨l,s1,h1,h2⟩:=ja2.1 h;rcases stmts_ser hT f f (Nat.le_refl f) q2 l s1 h1 with ⟨q3,rfl,hq,e⟩ | ⟨q3,a,rfl,e⟩
    · rw[e];rw[jg3 hT 5 [125] (Or.inr ⟨rfl,rfl⟩),if_pos hq] at h2;cases h2;rfl
    · rw[e];rw[jdf (by decide)] at h2;cases h2;rfl
  · (try simp only[fltI,fltW,Bool.false_eq_true,if_false,if_true,jjl] at h);(repeat (obtain ⟨_,_,zz,h⟩:=ja2.1 h;(first | (have e:=jcq zz;subst e) | (cases zz) | (obtain ⟨_,_,zy,zz⟩:=ja2.1 zz;have e:=jcq zy;subst e;cases zz));try simp only[fltI,fltW,Bool.false_eq_true,if_false,if_true,jjl] at h));(injection h with h);subst h;first | rfl | simp only[ocN,jkr,jnl]
theorem test_read (hT:jad T=true) {f i:Nat} {x:Nd} {s':Ps} (h:jaw T len f .cond ⟨i,none⟩=some (x,s')):(∃j,s'=⟨j,none⟩∧testQ T len (jbc T len f) i=some (.ok (x,j)))∨(∃j a,s'=⟨j,some a⟩∧testQ T len (jbc T len f) i=some (.error a)):=by
  cases f with
  | zero=>cases h
  | succ f =>
    have h:jn5 T len (jaw T len f) ⟨i,none⟩=some (x,s'):=h;unfold jn5 at h;unfold testQ;rcases jdn (len:=len) hT 5 [40] (Or.inr ⟨rfl,rfl⟩) i with ⟨q,e1,e2⟩ | ⟨a,q,e1,e2⟩<;>simp only[e1,e2,jaf] at h ⊢
    · obtain ⟨l,s1,h1,h2⟩:=ja2.1 h;rcases jkj (Nat.le_succ f) h1 with ⟨j,rfl,e⟩ | ⟨j,a,rfl,e⟩<;>simp only[e]
      · rcases jdn (len:=len) hT 5 [41] (Or.inr ⟨rfl,rfl⟩) j with ⟨q2,e1,e2⟩ | ⟨a,q2,e1,e2⟩<;>simp only[e1,e2] at h2 ⊢
        · cases h2;exact Or.inl ⟨_,rfl,rfl⟩
        · cases h2;exact Or.inr ⟨_,_,rfl,rfl⟩
      · rw[jdf (by decide)] at h2;cases h2;exact Or.inr ⟨_,_,rfl,rfl⟩
    · obtain ⟨l,s1,h1,h2⟩:=ja2.1 h;obtain rfl:=jcq h1;rw[jdf (by decide)] at h2;cases h2;exact Or.inr ⟨_,_,rfl,rfl⟩
theorem semi_is (hT:jad T=true) (i:Nat):jiw T ⟨i,none⟩=decide (jbg T (i+1)=[59]):=by
  rw[←jd5 hT 5 [59] (Or.inr ⟨rfl,rfl⟩)];unfold jiw isP jbi txtP;simp only[Option.isSome,Bool.false_eq_true,if_false]
  cases h:T[i+1]? with
  | none=>rfl
  | some t=>rfl
theorem s_stmt (hT:jad T=true) {f i:Nat} {r:Nd × Ps} (h:jhq T len (jaw T len f) ⟨i,none⟩=some r):stmtQ T len (jbc T len f) i=some (ocN r):=by
  unfold jhq at h;(have key:∀nt,jaw T len f nt ⟨i,none⟩=some r→jbc T len f nt i=some (ocN r):=fun nt h=>by unfold jbc;rw[h];rfl);simp only[jd5 hT 2 jji (Or.inl ⟨rfl,rfl⟩),jd5 hT 5 [123] (Or.inr ⟨rfl,rfl⟩),jd5 hT 2 jdy (Or.inl ⟨rfl,rfl⟩),jd5 hT 2 xIf (Or.inl ⟨rfl,rfl⟩),jd5 hT 2 jgx (Or.inl ⟨rfl,rfl⟩),semi_is hT,decide_eq_true_eq,show jbi T ⟨i,none⟩=kT T i from rfl] at h;unfold stmtQ;by_cases c0:kT T i=7∨kT T i=6∧jbg T (i+1)=[59]
  · rw[if_pos c0] at h;(have no:∀x:List UInt8,x≠[]→jbg T i≠x:=fun x hx e=>by have:=fix_kind hx e;omega);rw[if_neg (no _ (by decide)),if_neg (no _ (by decide)),if_neg (no _ (by decide)),if_neg (no _ (by decide)),if_neg (no _ (by decide)),if_pos c0];cases h;rcases holder_meta (len:=len) hT (i:=i) (by omega) with ⟨x,j,e1,e2⟩ | ⟨a,x,j,e1,e2⟩<;>rw[e1,e2]<;>rfl
  rw[if_neg c0] at h;by_cases c1:jbg T i=jji
  · rw[if_pos c1] at h ⊢;exact key _ h
  rw[if_neg c1] at h ⊢;by_cases c2:jbg T i=[123]
  · rw[if_pos c2] at h ⊢;exact key _ h
  rw[if_neg c2] at h ⊢;by_cases c3:jbg T i=jdy
  · rw[if_pos c3] at h ⊢;unfold retQ;simp only[jfq c3,jaf,jbb,jd5 hT 5 [59] (Or.inr ⟨rfl,rfl⟩),decide_eq_true_eq] at h ⊢;by_cases c:jbg T (i+1)=[59]<;>simp only[c,if_true,if_false] at h ⊢
    · simp only[thenP,jg3 hT 5 [59] (Or.inr ⟨rfl,rfl⟩),jfq c,if_pos c] at h ⊢;cases h;rfl
    · obtain ⟨l,s1,h1,h2⟩:=ja2.1 h;obtain ⟨y,s2,h3,h4⟩:=ja2.1 h1;cases h4;rcases jdl h3 with ⟨j,rfl,e⟩ | ⟨j,a,rfl,e⟩<;>simp only[e]
      · rcases jdn (len:=len) hT 5 [59] (Or.inr ⟨rfl,rfl⟩) j with ⟨q2,e1,e2⟩ | ⟨a,q2,e1,e2⟩<;>simp only[e1,e2] at h2 ⊢
        · cases h2;rfl
        · cases h2;rfl
      · rw[jdf (by decide)] at h2;cases h2;rfl
  rw[if_neg c3] at h ⊢;by_cases c4:jbg T i=xIf
  · rw[if_pos c4] at h ⊢;unfold condQ;simp only[jfq c4,jaf,jbb] at h ⊢;obtain ⟨l,s1,h1,h2⟩:=ja2.1 h;rcases test_read hT h1 with ⟨j,rfl,e⟩ | ⟨j,a,rfl,e⟩<;>simp only[e]
    · obtain ⟨b,s2,h3,h4⟩:=ja2.1 h2;rcases jdl h3 with ⟨j2,rfl,e⟩ | ⟨j2,a,rfl,e⟩<;>simp only[e]
      · unfold optQ;simp only[jd5 hT 2 jlc (Or.inl ⟨rfl,rfl⟩),decide_eq_true_eq,jaf] at h4 ⊢;by_cases c:jbg T j2=jlc<;>simp only[c,if_true,if_false] at h4 ⊢
        · obtain ⟨y,s5,h5,h6⟩:=ja2.1 h4;obtain ⟨z,s6,h7,h8⟩:=ja2.1 h5;cases h8;rcases jdl h7 with ⟨j3,rfl,e⟩ | ⟨j3,a,rfl,e⟩<;>simp only[e]
          · cases h6;rfl
          · cases h6;rfl
        · cases h4;rfl
      · simp only[jk7 (show (2:Int)≠0 by decide),Bool.false_eq_true,if_false] at h4;cases h4;rfl
    · obtain ⟨b,s2,h3,h4⟩:=ja2.1 h2;obtain rfl:=jcq h3;simp only[jk7 (show (2:Int)≠0 by decide),Bool.false_eq_true,if_false] at h4;cases h4;rfl
  rw[if_neg c4] at h ⊢;by_cases c5:jbg T i=jgx
  · rw[if_pos c5] at h ⊢;unfold whileQ;simp only[jfq c5,jaf,jbb] at h ⊢;obtain ⟨l,s1,h1,h2⟩:=ja2.1 h;rcases test_read hT h1 with ⟨j,rfl,e⟩ | ⟨j,a,rfl,e⟩<;>simp only[e]
    · obtain ⟨b,s2,h3,h4⟩:=ja2.1 h2;rcases jdl h3 with ⟨j2,rfl,e⟩ | ⟨j2,a,rfl,e⟩<;>simp only[e]
      · cases h4;rfl
      · cases h4;rfl
    · obtain ⟨b,s2,h3,h4⟩:=ja2.1 h2;obtain rfl:=jcq h3;cases h4;rfl
  rw[if_neg c5] at h ⊢;rw[if_neg c0];unfold simpleQ;obtain ⟨x,s1,h1,h2⟩:=ja2.1 h;rcases jdl h1 with ⟨j,rfl,e⟩ | ⟨j,a,rfl,e⟩<;>simp only[e,jaf]
  · simp only[jd5 hT 5 [61] (Or.inr ⟨rfl,rfl⟩),decide_eq_true_eq,jbb] at h2;by_cases c:jbg T j=[61]<;>simp only[c,if_true,if_false] at h2 ⊢
    · obtain ⟨y,s3,h3,h4⟩:=ja2.1 h2;rcases jdl h3 with ⟨j2,rfl,e⟩ | ⟨j2,a,rfl,e⟩<;>simp only[e]
      · rcases jdn (len:=len) hT 5 [59] (Or.inr ⟨rfl,rfl⟩) j2 with ⟨q2,e1,e2⟩ | ⟨a,q2,e1,e2⟩<;>simp only[e1,e2] at h4 ⊢
        · cases h4;rfl
        · cases h4;rfl
      · rw[jdf (by decide)] at h4;cases h4;rfl
    · rcases jdn (len:=len) hT 5 [59] (Or.inr ⟨rfl,rfl⟩) j with ⟨q2,e1,e2⟩ | ⟨a,q2,e1,e2⟩<;>simp only[e1,e2] at h2 ⊢
      · cases h2;rfl
      · cases h2;rfl
  · simp only[jk7 (show (5:Int)≠0 by decide),Bool.false_eq_true,if_false] at h2;rw[jdf (by decide)] at h2;cases h2;rfl
end
end
end Go.Proofs.YtonoklmobocikaaGreatDoor
