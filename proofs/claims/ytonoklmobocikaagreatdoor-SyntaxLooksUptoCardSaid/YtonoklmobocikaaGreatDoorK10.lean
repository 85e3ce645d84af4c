/- Layer 12, packed: Vg Vh Vi. -/
import Derived.Test.YtonoklmobocikaaGreatDoorK09
set_option linter.unusedVariables false
set_option linter.unusedSimpArgs false
set_option maxRecDepth 20000
set_option maxHeartbeats 6400000
namespace Go.Proofs.YtonoklmobocikaaGreatDoor
section
section
variable {T:List Tk} {len:Int}
theorem s_class (hT:jad T=true) {f i:Nat} {r:Nd × Ps} (h:jjg T len (jaw T len f) ⟨i,none⟩=some r):classQ T len (jbc T len f) f i=some (ocN r):=by
  unfold jjg at h;unfold classQ;rcases jdn (len:=len) hT 2 jeo (Or.inl ⟨rfl,rfl⟩) i with ⟨j1,e1,e2⟩ | ⟨a,j1,e1,e2⟩<;>simp only[e1,e2,jaf] at h ⊢
  rotate_left
  · flt h
  clear e1 e2;rcases jjq (T:=T) (len:=len) j1 with ⟨x,j2,e1,e2⟩ | ⟨a,x,j2,e1,e2⟩<;>simp only[e1,e2,jaf] at h ⊢
  rotate_left
  · flt h
  clear e1 e2
  have hb:∀(B C:Nd) (q:Nat) (hh:jjl T len (jaw T len f) 3 x (jaq T len ⟨i,none⟩) [B,C] true (jab T len 5 [123] ⟨q,none⟩)=some r),jaf (jn3 T len (jm2 T len (jbc T len f) true) f q) (fun m j5=>some (.ok (.mk 3 x (faP T len i) (laP T j5) ([B,C,m]),j5)))=some (ocN r):=by
    intro B C q hh;unfold jn3;rcases jdn (len:=len) hT 5 [123] (Or.inr ⟨rfl,rfl⟩) q with ⟨q2,e1,e2⟩ | ⟨a,q2,e1,e2⟩<;>simp only[e1,e2,jaf] at hh ⊢
    · unfold jjl at hh;obtain ⟨l,s1,h1,h2⟩:=ja2.1 hh;rcases mem_ser hT true f f (Nat.le_refl f) q2 l s1 h1 with ⟨q3,rfl,hq,e⟩ | ⟨q3,a,rfl,e⟩
      · rw[e];rw[jg3 hT 5 [125] (Or.inr ⟨rfl,rfl⟩),if_pos hq] at h2;cases h2;rfl
      · rw[e];rw[jdf (by decide)] at h2;cases h2;rfl
    · flt hh
  unfold optQ;simp only[jd5 hT 2 jmr (Or.inl ⟨rfl,rfl⟩),decide_eq_true_eq,jbb] at h ⊢;by_cases c0:jbg T j2=jmr<;>simp only[c0,if_true,if_false] at h ⊢
  · rcases st_typ (len:=len) hT (j2+1) with ⟨t,j3,e1,e2⟩ | ⟨a,t,j3,e1,e2⟩<;>simp only[e1,e2,jaf] at h ⊢
    · unfold jkt;simp only[jd5 hT 2 jis (Or.inl ⟨rfl,rfl⟩),decide_eq_true_eq,jbb] at h ⊢;by_cases c:jbg T j3=jis<;>simp only[c,if_true,if_false] at h ⊢
      · obtain ⟨b,s4,h1,h2⟩:=ja2.1 h;rcases types_ser hT f _ b s4 h1 with ⟨q,rfl,e⟩ | ⟨q,a,rfl,e⟩<;>simp only[e,jaf]
        · exact hb (jbm [t] (jao T ⟨j2,none⟩)) (jbm b.kids (jao T ⟨j3,none⟩)) q h2
        · flt h2
      · exact hb (jbm [t] (jao T ⟨j2,none⟩)) (jbm [] (jao T ⟨j3,none⟩)) j3 h
    · flt h
  · unfold jkt;simp only[jd5 hT 2 jis (Or.inl ⟨rfl,rfl⟩),decide_eq_true_eq,jbb,jaf] at h ⊢;by_cases c:jbg T j2=jis<;>simp only[c,if_true,if_false] at h ⊢
    · obtain ⟨b,s4,h1,h2⟩:=ja2.1 h;rcases types_ser hT f _ b s4 h1 with ⟨q,rfl,e⟩ | ⟨q,a,rfl,e⟩<;>simp only[e,jaf]
      · exact hb (jbm [] (jao T ⟨j2,none⟩)) (jbm b.kids (jao T ⟨j2,none⟩)) q h2
      · flt h2
    · exact hb (jbm [] (jao T ⟨j2,none⟩)) (jbm [] (jao T ⟨j2,none⟩)) j2 h
theorem st_param (hT:jad T=true) (i:Nat):(∃x j,jg0 T len i=.ok (x,j)∧jdm T len ⟨i,none⟩=(x,⟨j,none⟩))∨(∃a x j,jg0 T len i=.error a∧jdm T len ⟨i,none⟩=(x,⟨j,some a⟩)):=by
  unfold jg0 jdm;rw[show jbi T ⟨i,none⟩=kT T i from rfl];by_cases h:kT T i=7
  · rw[if_pos h,if_pos h,jk4 0 (Or.inr h),if_pos h];exact Or.inl ⟨_,_,rfl,rfl⟩
  · rw[if_neg h,if_neg h];rcases jjq (T:=T) (len:=len) i with ⟨x,j,e1,e2⟩ | ⟨a,x,j,e1,e2⟩<;>simp only[e1,e2,jht]
    · rcases jdn (len:=len) hT 5 [58] (Or.inr ⟨rfl,rfl⟩) j with ⟨j2,e1,e2⟩ | ⟨a,j2,e1,e2⟩<;>simp only[e1,e2]
      · rcases st_typ (len:=len) hT j2 with ⟨t,j3,e1,e2⟩ | ⟨a,t,j3,e1,e2⟩<;>simp only[e1,e2]
        · exact Or.inl ⟨_,_,rfl,rfl⟩
        · exact Or.inr ⟨_,_,_,rfl,rfl⟩
      · exact Or.inr ⟨_,_,_,rfl,by rw[jkr]⟩
    · exact Or.inr ⟨_,_,_,rfl,by rw[jdf (by decide),jkr]⟩
theorem param_bad (i:Nat) (a:Int):(jdm T len ⟨i,some a⟩).2=⟨i,some a⟩:=by
  unfold jdm;rw[if_neg (show ¬jbi T ⟨i,some a⟩=7 from by show ¬(0:Int)=7;decide)];simp only[jna (show (1:Int)≠0 by decide),jdf (show (5:Int)≠0 by decide),jkr]
theorem params_rest (hT:jad T=true) (f:Nat):∀g,g≤f→∀(i:Nat) (l:Nd) (s':Ps),jaw T len g (.params false) ⟨i,none⟩=some (l,s') →
    (∃j,s'=⟨j,none⟩∧jbg T j=[41]∧jih T (fun q=>some (jg0 T len q)) g i=some (.ok (l.kids,j))) ∨
    (∃j a,s'=⟨j,some a⟩∧(jaf (jih T (fun q=>some (jg0 T len q)) g i) fun (l:List Nd) j2=>jaf (some (jbx T len [41] j2)) fun _ j3=>some (.ok (l,j3)))=some (.error a)):=by
  refine par_ser (RS:=fun g s=>jaw T len g (.params false) s) f (fun _=>rfl) ?_;intro g hg i l s' h;have h:jfl T len (jaw T len g) false ⟨i,none⟩=some (l,s'):=h;unfold jfl at h;simp only[jd5 hT 5 [41] (Or.inr ⟨rfl,rfl⟩),decide_eq_true_eq,Option.isSome,Bool.false_eq_true,false_or,if_false] at h;by_cases c1:jbg T i=[41]
  · rw[if_pos c1] at h;cases h;exact Or.inl ⟨c1,rfl,rfl⟩
  rw[if_neg c1,jg3 hT 5 [44] (Or.inr ⟨rfl,rfl⟩)] at h;by_cases c2:jbg T i=[44]
  · rw[if_pos c2] at h;refine Or.inr (Or.inr ⟨c2,?_⟩);rcases st_param (len:=len) hT (i+1) with ⟨x,j,e1,e2⟩ | ⟨a,x,j,e1,e2⟩<;>simp only[e1,e2] at h ⊢
    · obtain ⟨l',s2,h1,h2⟩:=ja2.1 h;cases h2;exact Or.inr ⟨x,j,l',rfl,h1,rfl⟩
    · obtain ⟨l',s2,h1,h2⟩:=ja2.1 h;obtain rfl:=jcq h1;cases h2;exact Or.inl ⟨j,a,rfl,rfl⟩
  · rw[if_neg c2] at h;obtain ⟨l',s2,h1,h2⟩:=ja2.1 h;rw[param_bad] at h1;obtain rfl:=jcq h1;cases h2;exact Or.inr (Or.inl ⟨c1,c2,i,rfl⟩)
theorem serQ_more (E:Nat→Option (Oc Nd)):∀k i R,jmb T E k i=some R→jmb T E (k+1) i=some R:=by
  intro k
  induction k with
  | zero=>intro i R h;cases h
  | succ k ih =>
    intro i R h;rw[jgv] at h ⊢;unfold jaf at h ⊢
    cases hE:E i with
    | none=>rw[hE] at h;cases h
    | some y =>
      rw[hE] at h
      cases y with
      | error a=>exact h
      | ok x =>
        dsimp only at h ⊢;unfold jih at h ⊢;by_cases c:jbg T x.2=[44]
        · rw[if_pos c] at h ⊢
          cases hs:jmb T E k (x.2+1) with
          | none=>rw[hs] at h;cases h
          | some z=>rw[ih _ _ hs];rw[hs] at h;exact h
        · rw[if_neg c] at h ⊢;exact h
theorem params_par (hT:jad T=true) (f i:Nat) (l:Nd) (s':Ps) (h:jaw T len f (.params true) ⟨i,none⟩=some (l,s')) :
    (∃j,s'=⟨j,none⟩∧jbg T j=[41]∧(if jbg T i=[41] then some (.ok ([],i+1)) else jaf (jmb T (fun q=>some (jg0 T len q)) f i) fun (l:List Nd) j2=>jaf (some (jbx T len [41] j2)) fun _ j3=>some (.ok (l,j3)))=some (Except.ok (l.kids,j+1))) ∨
    (∃j a,s'=⟨j,some a⟩∧(if jbg T i=[41] then some (.ok ([],i+1)) else jaf (jmb T (fun q=>some (jg0 T len q)) f i) fun (l:List Nd) j2=>jaf (some (jbx T len [41] j2)) fun _ j3=>some (.ok (l,j3)))=some (Except.error a)):=by
  cases f with
  | zero=>cases h
  | succ f =>
    have h:jfl T len (jaw T len f) true ⟨i,none⟩=some (l,s'):=h;unfold jfl at h;simp only[jd5 hT 5 [41] (Or.inr ⟨rfl,rfl⟩),decide_eq_true_eq,Option.isSome,Bool.false_eq_true,false_or,if_true] at h;by_cases c1:jbg T i=[41]
    · rw[if_pos c1] at h;cases h;rw[if_pos c1];exact Or.inl ⟨i,rfl,c1,rfl⟩
    rw[if_neg c1] at h;rw[if_neg c1,jgv];rcases st_param (len:=len) hT i with ⟨x,j,e1,e2⟩ | ⟨a,x,j,e1,e2⟩<;>simp only[e1,e2] at h ⊢
    · obtain ⟨l',s2,h1,h2⟩:=ja2.1 h;cases h2;rcases params_rest hT f f (Nat.le_refl f) j l' _ h1 with ⟨q,rfl,hq,e⟩ | ⟨q,a,rfl,e⟩
      · refine Or.inl ⟨q,rfl,hq,?_⟩;simp only[jaf,e,jfq hq];rfl
      · refine Or.inr ⟨q,a,rfl,?_⟩;exact cons_err _ e
    · obtain ⟨l',s2,h1,h2⟩:=ja2.1 h;obtain rfl:=jcq h1;cases h2;exact Or.inr ⟨j,a,rfl,rfl⟩
theorem s_func (hT:jad T=true) {f i:Nat} {r:Nd × Ps} (h:jl6 T len (jaw T len f) true ⟨i,none⟩=some r):funcQ T len (jbc T len f) f i=some (ocN r):=by
  unfold jl6 at h;unfold funcQ headQ;rcases jdn (len:=len) hT 2 jed (Or.inl ⟨rfl,rfl⟩) i with ⟨j1,e1,e2⟩ | ⟨a,j1,e1,e2⟩<;>simp only[e1,e2,jaf] at h ⊢
  rotate_left
  · flt h
  clear e1 e2;rcases jjq (T:=T) (len:=len) j1 with ⟨x,j2,e1,e2⟩ | ⟨a,x,j2,e1,e2⟩<;>simp only[e1,e2] at h ⊢
  rotate_left
  · flt h
  clear e1 e2;unfold jk8;rcases jdn (len:=len) hT 5 [40] (Or.inr ⟨rfl,rfl⟩) j2 with ⟨j3,e1,e2⟩ | ⟨a,j3,e1,e2⟩<;>simp only[e1,e2,jaf] at h ⊢
  rotate_left
  · flt h
  clear e1 e2;obtain ⟨p,s4,h1,h2⟩:=ja2.1 h;clear h
  have hp:∀(o:Option (Oc (List Nd))) ,o=(if jbg T j3=[41] then some (.ok ([],j3+1)) else jaf (jmb T (fun q=>some (jg0 T len q)) f j3) fun (l:List Nd) j2=>jaf (some (jbx T len [41] j2)) fun _ j3=>some (.ok (l,j3))) →
      (if jbg T j3=[41] then some (.ok (jbm [] (laP T j3),j3+1)) else jaf (jmb T (fun q=>some (jg0 T len q)) f j3) fun (l:List Nd) j2=>jaf (some (jbx T len [41] j2)) fun _ j4=>some (.ok (jbm l (laP T j3),j4)))=jaf o fun (l:List Nd) j=>some (Except.ok (jbm l (laP T j3),j)):=by
    intro o ho;subst ho;by_cases c:jbg T j3=[41]
    · rw[if_pos c,if_pos c];try rfl
    · rw[if_neg c,if_neg c,je0];congr 1;funext l j;rw[je0];try rfl
  have hp:=hp _ rfl;simp only[jaf] at hp;rcases params_par hT f j3 p s4 h1 with ⟨q,rfl,hq,e⟩ | ⟨q,a,rfl,e⟩<;>simp only[jaf] at e
  · rw[e] at hp;simp only[hp];rw[jg3 hT 5 [41] (Or.inr ⟨rfl,rfl⟩),if_pos hq] at h2;unfold optQ;simp only[jd5 hT 5 [58] (Or.inr ⟨rfl,rfl⟩),decide_eq_true_eq,jbb] at h2 ⊢;by_cases c0:jbg T (q+1)=[58]<;>simp only[c0,if_true,if_false,jaf] at h2 ⊢
    · rcases st_typ (len:=len) hT (q+1+1) with ⟨t,j4,e1,e2⟩ | ⟨a,t,j4,e1,e2⟩<;>simp only[e1,e2] at h2 ⊢
      · obtain ⟨b,s7,h5,h6⟩:=ja2.1 h2;(try simp only[if_true] at h5);obtain ⟨y,s8,h7,h8⟩:=ja2.1 h5;cases h8;rcases jdl h7 with ⟨q5,rfl,e3⟩ | ⟨q5,a,rfl,e3⟩<;>simp only[e3,jaf]
        · cases h6;rfl
        · cases h6;rfl
      · flt h2
    · obtain ⟨b,s7,h5,h6⟩:=ja2.1 h2;(try simp only[if_true] at h5);obtain ⟨y,s8,h7,h8⟩:=ja2.1 h5;cases h8;rcases jdl h7 with ⟨q5,rfl,e3⟩ | ⟨q5,a,rfl,e3⟩<;>simp only[e3,jaf]
      · cases h6;rfl
      · cases h6;rfl
  · rw[e] at hp;simp only[hp];rw[jdf (by decide)] at h2
    flt h2
theorem s_sig (hT:jad T=true) {f i:Nat} {r:Nd × Ps} (h:jl6 T len (jaw T len f) false ⟨i,none⟩=some r):sigQ T len f i=some (ocN r):=by
  unfold jl6 at h;unfold sigQ headQ;rcases jdn (len:=len) hT 2 jed (Or.inl ⟨rfl,rfl⟩) i with ⟨j1,e1,e2⟩ | ⟨a,j1,e1,e2⟩<;>simp only[e1,e2,jaf] at h ⊢
  rotate_left
  · flt h
  clear e1 e2;rcases jjq (T:=T) (len:=len) j1 with ⟨x,j2,e1,e2⟩ | ⟨a,x,j2,e1,e2⟩<;>simp only[e1,e2] at h ⊢
  rotate_left
  · flt h
  clear e1 e2;unfold jk8;rcases jdn (len:=len) hT 5 [40] (Or.inr ⟨rfl,rfl⟩) j2 with ⟨j3,e1,e2⟩ | ⟨a,j3,e1,e2⟩<;>simp only[e1,e2,jaf] at h ⊢
  rotate_left
  · flt h
  clear e1 e2;obtain ⟨p,s4,h1,h2⟩:=ja2.1 h;clear h
  have hp:∀(o:Option (Oc (List Nd))) ,o=(if jbg T j3=[41] then some (.ok ([],j3+1)) else jaf (jmb T (fun q=>some (jg0 T len q)) f j3) fun (l:List Nd) j2=>jaf (some (jbx T len [41] j2)) fun _ j3=>some (.ok (l,j3))) →
      (if jbg T j3=[41] then some (.ok (jbm [] (laP T j3),j3+1)) else jaf (jmb T (fun q=>some (jg0 T len q)) f j3) fun (l:List Nd) j2=>jaf (some (jbx T len [41] j2)) fun _ j4=>some (.ok (jbm l (laP T j3),j4)))=jaf o fun (l:List Nd) j=>some (Except.ok (jbm l (laP T j3),j)):=by
    intro o ho;subst ho;by_cases c:jbg T j3=[41]
    · rw[if_pos c,if_pos c];try rfl
    · rw[if_neg c,if_neg c,je0];congr 1;funext l j;rw[je0];try rfl
  have hp:=hp _ rfl;simp only[jaf] at hp;rcases params_par hT f j3 p s4 h1 with ⟨q,rfl,hq,e⟩ | ⟨q,a,rfl,e⟩<;>simp only[jaf] at e
  · rw[e] at hp;simp only[hp];rw[jg3 hT 5 [41] (Or.inr ⟨rfl,rfl⟩),if_pos hq] at h2;unfold optQ;simp only[jd5 hT 5 [58] (Or.inr ⟨rfl,rfl⟩),decide_eq_true_eq,jbb] at h2 ⊢;by_cases c0:jbg T (q+1)=[58]<;>simp only[c0,if_true,if_false,jaf] at h2 ⊢
    · rcases st_typ (len:=len) hT (q+1+1) with ⟨t,j4,e1,e2⟩ | ⟨a,t,j4,e1,e2⟩<;>simp only[e1,e2] at h2 ⊢
      · simp only[if_false,Bool.false_eq_true,thenP] at h2;rcases jdn (len:=len) hT 5 [59] (Or.inr ⟨rfl,rfl⟩) j4 with ⟨q5,e3,e4⟩ | ⟨a,q5,e3,e4⟩<;>simp only[e3,e4] at h2 ⊢
        · cases h2;rfl
        · cases h2;rfl
      · flt h2
    · simp only[if_false,Bool.false_eq_true,thenP] at h2;rcases jdn (len:=len) hT 5 [59] (Or.inr ⟨rfl,rfl⟩) (q+1) with ⟨q5,e3,e4⟩ | ⟨a,q5,e3,e4⟩<;>simp only[e3,e4] at h2 ⊢
      · cases h2;rfl
      · cases h2;rfl
  · rw[e] at hp;simp only[hp];rw[jdf (by decide)] at h2
    flt h2
end
end
section
section
variable {T:List Tk} {len:Int}
theorem stmts_ser (hT:jad T=true) (f:Nat):∀g,g≤f→∀(i:Nat) (l:Nd) (s':Ps),jaw T len g .stmts ⟨i,none⟩=some (l,s') →
    (∃j,s'=⟨j,none⟩∧jbg T j=[125]∧jj4 T (jbc T len f .stmt) g i=some (.ok (l.kids,j+1)))∨(∃j a,s'=⟨j,some a⟩∧jj4 T (jbc T len f .stmt) g i=some (.error a)):=by
  refine loop_ser (RS:=fun g s=>jaw T len g .stmts s) f (fun _=>rfl) ?_;intro g hg i l s' h;have h:jio T (jaw T len g) ⟨i,none⟩=some (l,s'):=h;unfold jio at h;simp only[jd5 hT 5 [125] (Or.inr ⟨rfl,rfl⟩),decide_eq_true_eq,Option.isSome,Bool.false_eq_true,false_or] at h;by_cases c1:jbg T i=[125]
  · rw[if_pos c1] at h;cases h;exact Or.inl ⟨c1,rfl,rfl⟩
  rw[if_neg c1] at h;refine Or.inr ⟨c1,?_⟩;obtain ⟨x,s1,h1,h2⟩:=ja2.1 h;obtain ⟨l',s2,h3,h4⟩:=ja2.1 h2;cases h4;rcases jkj (Nat.le_of_lt hg) h1 with ⟨j,rfl,e⟩ | ⟨j,a,rfl,e⟩
  · exact Or.inr ⟨x,j,l',e,h3,rfl⟩
  · obtain rfl:=jcq h3;exact Or.inl ⟨j,a,rfl,e⟩
theorem s_block (hT:jad T=true) {f i:Nat} {r:Nd × Ps} (h:jjh T len (jaw T len f) ⟨i,none⟩=some r):blockQ T len (jbc T len f) f i=some (ocN r):=by
  unfold jjh at h;unfold blockQ jn3;rcases jdn (len:=len) hT 5 [123] (Or.inr ⟨rfl,rfl⟩) i with ⟨q2,e1,e2⟩ | ⟨a,q2,e1,e2⟩<;>simp only[e1,e2,jaf] at h ⊢
  · obtain ⟨l,s1,h1,h2⟩:=ja2.1 h;rcases stmts_ser hT f f (Nat.le_refl f) q2 l s1 h1 with ⟨q3,rfl,hq,e⟩ | ⟨q3,a,rfl,e⟩
    · rw[e];rw[jg3 hT 5 [125] (Or.inr ⟨rfl,rfl⟩),if_pos hq] at h2;cases h2;rfl
    · rw[e];rw[jdf (by decide)] at h2;cases h2;rfl
  · flt h
theorem test_read (hT:jad T=true) {f i:Nat} {x:Nd} {s':Ps} (h:jaw T len f .cond ⟨i,none⟩=some (x,s')):(∃j,s'=⟨j,none⟩∧testQ T len (jbc T len f) i=some (.ok (x,j)))∨(∃j a,s'=⟨j,some a⟩∧testQ T len (jbc T len f) i=some (.error a)):=by
  cases f with
  | zero=>cases h
  | succ f =>
    have h:jn5 T len (jaw T len f) ⟨i,none⟩=some (x,s'):=h;unfold jn5 at h;unfold testQ;rcases jdn (len:=len) hT 5 [40] (Or.inr ⟨rfl,rfl⟩) i with ⟨q,e1,e2⟩ | ⟨a,q,e1,e2⟩<;>simp only[e1,e2,jaf] at h ⊢
    · obtain ⟨l,s1,h1,h2⟩:=ja2.1 h;rcases jkj (Nat.le_succ f) h1 with ⟨j,rfl,e⟩ | ⟨j,a,rfl,e⟩<;>simp only[e]
      · rcases jdn (len:=len) hT 5 [41] (Or.inr ⟨rfl,rfl⟩) j with ⟨q2,e1,e2⟩ | ⟨a,q2,e1,e2⟩<;>simp only[e1,e2] at h2 ⊢
        · cases h2;exact Or.inl ⟨_,rfl,rfl⟩
        · cases h2;exact Or.inr ⟨_,_,rfl,rfl⟩
      · rw[jdf (by decide)] at h2;cases h2;exact Or.inr ⟨_,_,rfl,rfl⟩
    · obtain ⟨l,s1,h1,h2⟩:=ja2.1 h;obtain rfl:=jcq h1;rw[jdf (by decide)] at h2;cases h2;exact Or.inr ⟨_,_,rfl,rfl⟩
theorem semi_is (hT:jad T=true) (i:Nat):jiw T ⟨i,none⟩=decide (jbg T (i+1)=[59]):=by
  rw[←jd5 hT 5 [59] (Or.inr ⟨rfl,rfl⟩)];unfold jiw isP jbi txtP;simp only[Option.isSome,Bool.false_eq_true,if_false]
  cases h:T[i+1]? with
  | none=>rfl
  | some t=>rfl
theorem s_stmt (hT:jad T=true) {f i:Nat} {r:Nd × Ps} (h:jhq T len (jaw T len f) ⟨i,none⟩=some r):stmtQ T len (jbc T len f) i=some (ocN r):=by
  unfold jhq at h;(have key:∀nt,jaw T len f nt ⟨i,none⟩=some r→jbc T len f nt i=some (ocN r):=fun nt h=>by unfold jbc;rw[h];rfl);simp only[jd5 hT 2 jji (Or.inl ⟨rfl,rfl⟩),jd5 hT 5 [123] (Or.inr ⟨rfl,rfl⟩),jd5 hT 2 jdy (Or.inl ⟨rfl,rfl⟩),jd5 hT 2 xIf (Or.inl ⟨rfl,rfl⟩),jd5 hT 2 jgx (Or.inl ⟨rfl,rfl⟩),semi_is hT,decide_eq_true_eq,show jbi T ⟨i,none⟩=kT T i from rfl] at h;unfold stmtQ;by_cases c0:kT T i=7∨kT T i=6∧jbg T (i+1)=[59]
  · rw[if_pos c0] at h;(have no:∀x:List UInt8,x≠[]→jbg T i≠x:=fun x hx e=>by have:=fix_kind hx e;omega);rw[if_neg (no _ (by decide)),if_neg (no _ (by decide)),if_neg (no _ (by decide)),if_neg (no _ (by decide)),if_neg (no _ (by decide)),if_pos c0];cases h;rcases holder_meta (len:=len) hT (i:=i) (by omega) with ⟨x,j,e1,e2⟩ | ⟨a,x,j,e1,e2⟩<;>rw[e1,e2]<;>rfl
  rw[if_neg c0] at h;by_cases c1:jbg T i=jji
  · rw[if_pos c1] at h ⊢;exact key _ h
  rw[if_neg c1] at h ⊢;by_cases c2:jbg T i=[123]
  · rw[if_pos c2] at h ⊢;exact key _ h
  rw[if_neg c2] at h ⊢;by_cases c3:jbg T i=jdy
  · rw[if_pos c3] at h ⊢;unfold retQ;simp only[jfq c3,jaf,jbb,jd5 hT 5 [59] (Or.inr ⟨rfl,rfl⟩),decide_eq_true_eq] at h ⊢;by_cases c:jbg T (i+1)=[59]<;>simp only[c,if_true,if_false] at h ⊢
    · simp only[thenP,jg3 hT 5 [59] (Or.inr ⟨rfl,rfl⟩),jfq c,if_pos c] at h ⊢;cases h;rfl
    · obtain ⟨l,s1,h1,h2⟩:=ja2.1 h;obtain ⟨y,s2,h3,h4⟩:=ja2.1 h1;cases h4;rcases jdl h3 with ⟨j,rfl,e⟩ | ⟨j,a,rfl,e⟩<;>simp only[e]
      · rcases jdn (len:=len) hT 5 [59] (Or.inr ⟨rfl,rfl⟩) j with ⟨q2,e1,e2⟩ | ⟨a,q2,e1,e2⟩<;>simp only[e1,e2] at h2 ⊢
        · cases h2;rfl
        · cases h2;rfl
      · rw[jdf (by decide)] at h2;cases h2;rfl
  rw[if_neg c3] at h ⊢;by_cases c4:jbg T i=xIf
  · rw[if_pos c4] at h ⊢;unfold condQ;simp only[jfq c4,jaf,jbb] at h ⊢;obtain ⟨l,s1,h1,h2⟩:=ja2.1 h;rcases test_read hT h1 with ⟨j,rfl,e⟩ | ⟨j,a,rfl,e⟩<;>simp only[e]
    · obtain ⟨b,s2,h3,h4⟩:=ja2.1 h2;rcases jdl h3 with ⟨j2,rfl,e⟩ | ⟨j2,a,rfl,e⟩<;>simp only[e]
      · unfold optQ;simp only[jd5 hT 2 jlc (Or.inl ⟨rfl,rfl⟩),decide_eq_true_eq,jaf] at h4 ⊢;by_cases c:jbg T j2=jlc<;>simp only[c,if_true,if_false] at h4 ⊢
        · obtain ⟨y,s5,h5,h6⟩:=ja2.1 h4;obtain ⟨z,s6,h7,h8⟩:=ja2.1 h5;cases h8;rcases jdl h7 with ⟨j3,rfl,e⟩ | ⟨j3,a,rfl,e⟩<;>simp only[e]
          · cases h6;rfl
          · cases h6;rfl
        · cases h4;rfl
      · simp only[jk7 (show (2:Int)≠0 by decide),Bool.false_eq_true,if_false] at h4;cases h4;rfl
    · obtain ⟨b,s2,h3,h4⟩:=ja2.1 h2;obtain rfl:=jcq h3;simp only[jk7 (show (2:Int)≠0 by decide),Bool.false_eq_true,if_false] at h4;cases h4;rfl
  rw[if_neg c4] at h ⊢;by_cases c5:jbg T i=jgx
  · rw[if_pos c5] at h ⊢;unfold whileQ;simp only[jfq c5,jaf,jbb] at h ⊢;obtain ⟨l,s1,h1,h2⟩:=ja2.1 h;rcases test_read hT h1 with ⟨j,rfl,e⟩ | ⟨j,a,rfl,e⟩<;>simp only[e]
    · obtain ⟨b,s2,h3,h4⟩:=ja2.1 h2;rcases jdl h3 with ⟨j2,rfl,e⟩ | ⟨j2,a,rfl,e⟩<;>simp only[e]
      · cases h4;rfl
      · cases h4;rfl
    · obtain ⟨b,s2,h3,h4⟩:=ja2.1 h2;obtain rfl:=jcq h3;cases h4;rfl
  rw[if_neg c5] at h ⊢;rw[if_neg c0];unfold simpleQ;obtain ⟨x,s1,h1,h2⟩:=ja2.1 h;rcases jdl h1 with ⟨j,rfl,e⟩ | ⟨j,a,rfl,e⟩<;>simp only[e,jaf]
  · simp only[jd5 hT 5 [61] (Or.inr ⟨rfl,rfl⟩),decide_eq_true_eq,jbb] at h2;by_cases c:jbg T j=[61]<;>simp only[c,if_true,if_false] at h2 ⊢
    · obtain ⟨y,s3,h3,h4⟩:=ja2.1 h2;rcases jdl h3 with ⟨j2,rfl,e⟩ | ⟨j2,a,rfl,e⟩<;>simp only[e]
      · rcases jdn (len:=len) hT 5 [59] (Or.inr ⟨rfl,rfl⟩) j2 with ⟨q2,e1,e2⟩ | ⟨a,q2,e1,e2⟩<;>simp only[e1,e2] at h4 ⊢
        · cases h4;rfl
        · cases h4;rfl
      · rw[jdf (by decide)] at h4;cases h4;rfl
    · rcases jdn (len:=len) hT 5 [59] (Or.inr ⟨rfl,rfl⟩) j with ⟨q2,e1,e2⟩ | ⟨a,q2,e1,e2⟩<;>simp only[e1,e2] at h2 ⊢
      · cases h2;rfl
      · cases h2;rfl
  · simp only[jk7 (show (5:Int)≠0 by decide),Bool.false_eq_true,if_false] at h2;rw[jdf (by decide)] at h2;cases h2;rfl
end
end
section
def jfc (x:List UInt8):Nat :=
  if x=[124,124] then 1 else if x=[38,38] then 2 else if x=[61,61]∨x=[33,61] then 3 else if x=[60]∨x=[62] then 4 else if x=[43]∨x=[45] then 5 else if x=[42]∨x=[47]∨x=[37] then 6 else 0
def NdQ (o:Option (Oc Nd)) (x:Nd) (s':Ps):Prop:=(∃j,s'=⟨j,none⟩∧o=some (.ok (x,j)))∨(∃j a,s'=⟨j,some a⟩∧o=some (.error a))
section
variable (T:List Tk) (len:Int) (rec:NT→Nat→Option (Oc Nd))
def argQ (i:Nat):Option (Oc Nd):=if kT T i=7 then some (.ok (leafQ T len 26 i,i+1)) else rec (.expr 0) i
def binL (lvl:Nat) (at_:Int):Nat→Nd→Nat→Option (Oc Nd)
  | 0,_,_=>none
  | k+1,n,i=>if jfc (jbg T i)=lvl+1 then jaf (rec (.expr (lvl+1)) (i+1)) fun b j=>binL lvl at_ k (.mk 23 (tT T i) at_ (laP T j) [n,b]) j else some (.ok (n,i))
def exprQ (k lvl i:Nat):Option (Oc Nd):=if 6≤lvl then rec .unary i else jaf (rec (.expr (lvl+1)) i) fun n j=>binL T rec lvl (faP T len i) k n j
def jjj (a:Int) (f:Nat):Nat→Nd→Nat→Option (Oc Nd)
  | 0,_,_=>none
  | k+1,n,i=>if jbg T i=[46] then jaf (some (jeb T len (i+1))) fun x j=>jjj a f k (.mk 19 x a (laP T j) [n]) j
    else if jbg T i=[40] then jaf (jk8 T len (argQ T len rec) f i) fun l j=>jjj a f k (.mk 20 [] a (laP T j) (n :: l.kids)) j
    else some (.ok (n,i))
def unaryQ (k i:Nat):Option (Oc Nd) :=
  if jbg T i=[33]∨jbg T i=[45] then jaf (rec .unary (i+1)) fun a j=>some (.ok (.mk 22 (tT T i) (faP T len i) (laP T j) [a],j))
  else jaf (rec .primary i) fun n j=>jjj T len rec (faP T len i) k k n j
def newQ (k i:Nat):Option (Oc Nd):=jaf (some (jbx T len xNew i)) fun _ j=>jaf (some (jjn T len j)) fun x j2=>jaf (jk8 T len (argQ T len rec) k j2) fun l j3=>some (.ok (.mk 21 x (faP T len i) (laP T j3) l.kids,j3))
def groupQ (i:Nat):Option (Oc Nd):=jaf (testQ T len rec i) fun n j=>some (.ok (.mk n.kind n.text (faP T len i) (laP T j) n.kids,j))
def primQ (k i:Nat):Option (Oc Nd) :=
  if kT T i=1 then some (.ok (leafQ T len 15 i,i+1)) else if kT T i=3 then some (.ok (leafQ T len 16 i,i+1)) else if kT T i=4 then some (.ok (leafQ T len 17 i,i+1)) else if kT T i=6 then some (.ok (leafQ T len 25 i,i+1))
  else if jdu (jbg T i)=true then some (.ok (leafQ T len 18 i,i+1)) else if jbg T i=xNew then newQ T len rec k i else if jbg T i=[40] then groupQ T len rec i else some (.error (faP T len i))
end
section
variable {T:List Tk} {len:Int}
theorem read_at:∀(f:Nat) (s:Ps) (x:Nd) (s':Ps),s'.bad=none→(∀lvl,jaw T len f (.expr lvl) s=some (x,s')→x.at_=jaq T len s)∧(jaw T len f .unary s=some (x,s')→x.at_=jaq T len s)∧(jaw T len f .primary s=some (x,s')→x.at_=jaq T len s) ∧
    (∀lvl n,jaw T len f (.binRest lvl n) s=some (x,s')→x.at_=n.at_)∧(∀n,jaw T len f (.postRest n) s=some (x,s')→x.at_=n.at_):=by
  intro f
  induction f with
  | zero=>intro s x s' _;refine ⟨fun _ h=>?_,fun h=>?_,fun h=>?_,fun _ _ h=>?_,fun _ h=>?_⟩<;>cases h
  | succ f ih =>
    intro s x s' hb
    have nb:∀{nt:NT} {s1 s2:Ps} {y:Nd},jaw T len f nt s1=some (y,s2)→s2.bad=none→s1.bad=none:=by
      intro nt s1 s2 y h h2
      cases h1:s1.bad with
      | none=>rfl
      | some a =>
        have:=read_badS (by rw[h1];rfl) h;subst this;rw[h1] at h2;cases h2
    refine ⟨fun lvl h=>?_,fun h=>?_,fun h=>?_,fun lvl n h=>?_,fun n h=>?_⟩
    · have h:jl7 (jaw T len f) lvl s=some (x,s'):=h;unfold jl7 at h;split at h
      · exact (ih s x s' hb).2.1 h
      · obtain ⟨n,s1,h1,h2⟩:=ja2.1 h;rw[(ih s1 x s' hb).2.2.2.1 _ _ h2];exact (ih s n s1 (nb h2 hb)).1 _ h1
    · have h:jhp T len (jaw T len f) s=some (x,s'):=h;unfold jhp at h;split at h
      · obtain ⟨n,s1,h1,h2⟩:=ja2.1 h;cases h2;rfl
      · obtain ⟨n,s1,h1,h2⟩:=ja2.1 h;rw[(ih s1 x s' hb).2.2.2.2 _ h2];exact (ih s n s1 (nb h2 hb)).2.2.1 h1
    · have h:jdv T len (jaw T len f) s=some (x,s'):=h;unfold jdv at h;dsimp only at h;split at h
      · cases h;rfl
      split at h
      · cases h;rfl
      split at h
      · cases h;rfl
      split at h
      · cases h;rfl
      split at h
      · obtain ⟨n,s1,h1,h2⟩:=ja2.1 h;cases h2;rfl
      split at h
      · cases h;rfl
      split at h
      · rename_i c;cases h;rw[hb] at c;cases c
      · obtain ⟨n,s1,h1,h2⟩:=ja2.1 h;cases h2;rfl
    · have h:bBin T (jaw T len f) lvl n s=some (x,s'):=h;unfold bBin at h;split at h
      · cases h;rfl
      · obtain ⟨b,s1,h1,h2⟩:=ja2.1 h;exact ((ih s1 x s' hb).2.2.2.1 _ _ h2).trans rfl
    · have h:jkb T len (jaw T len f) n s=some (x,s'):=h;unfold jkb at h;split at h
      · cases h;rfl
      split at h
      · exact ((ih _ x s' hb).2.2.2.2 _ h).trans rfl
      split at h
      · obtain ⟨b,s1,h1,h2⟩:=ja2.1 h;exact ((ih s1 x s' hb).2.2.2.2 _ h2).trans rfl
      · cases h;rfl
theorem fix_txt {i:Nat} (h:jbg T i≠[]):tT T i=jbg T i:=by
  unfold jbg at h ⊢;split
  · rfl
  · rename_i c;rw[if_neg c] at h;exact absurd rfl h
theorem jfb (y:List UInt8):y=[124,124]∨y=[38,38]∨y=[61,61]∨y=[33,61]∨y=[60]∨y=[62]∨y=[43]∨y=[45]∨y=[42]∨y=[47]∨y=[37]∨(jfc y=0∧y≠[124,124]∧y≠[38,38]∧y≠[61,61]∧y≠[33,61]∧y≠[60]∧y≠[62]∧y≠[43]∧y≠[45]∧y≠[42]∧y≠[47]∧y≠[37]):=by
  by_cases h0:y=[124,124]
  · simp[h0]
  by_cases h1:y=[38,38]
  · simp[h1]
  by_cases h2:y=[61,61]
  · simp[h2]
  by_cases h3:y=[33,61]
  · simp[h3]
  by_cases h4:y=[60]
  · simp[h4]
  by_cases h5:y=[62]
  · simp[h5]
  by_cases h6:y=[43]
  · simp[h6]
  by_cases h7:y=[45]
  · simp[h7]
  by_cases h8:y=[42]
  · simp[h8]
  by_cases h9:y=[47]
  · simp[h9]
  by_cases h10:y=[37]
  · simp[h10]
  have hl:jfc y=0:=by
    unfold jfc;simp[h0,h1,h2,h3,h4,h5,h6,h7,h8,h9,h10]
  exact Or.inr (Or.inr (Or.inr (Or.inr (Or.inr (Or.inr (Or.inr (Or.inr (Or.inr (Or.inr (Or.inr (⟨hl,h0,h1,h2,h3,h4,h5,h6,h7,h8,h9,h10⟩)))))))))))
theorem op_level (hT:jad T=true) (lvl:Nat) (hl:lvl<6) (i:Nat):opP T lvl ⟨i,none⟩=if jfc (jbg T i)=lvl+1 then jbg T i else []:=by
  unfold opP;have m:∀x,jim x=true→isP T 5 x ⟨i,none⟩=decide (jbg T i=x):=fun x hx=>jd5 hT 5 x (Or.inr ⟨rfl,hx⟩) i;(have hl:lvl=0∨lvl=1∨lvl=2∨lvl=3∨lvl=4∨lvl=5:=by omega);rcases hl with rfl | rfl | rfl | rfl | rfl | rfl
  · show (if isP T 5 [124,124] ⟨i,none⟩=true then [124,124] else ([]:List UInt8))=_;rw[m [124,124] (by decide)];simp only[decide_eq_true_eq];generalize jbg T i=y;rcases jfb y with rfl | rfl | rfl | rfl | rfl | rfl | rfl | rfl | rfl | rfl | rfl | ⟨h,h0,h1,h2,h3,h4,h5,h6,h7,h8,h9,h10⟩;all_goals first | rfl | decide | (rw[h];simp[h0,h1,h2,h3,h4,h5,h6,h7,h8,h9,h10])
  · show (if isP T 5 [38,38] ⟨i,none⟩=true then [38,38] else ([]:List UInt8))=_;rw[m [38,38] (by decide)];simp only[decide_eq_true_eq];generalize jbg T i=y;rcases jfb y with rfl | rfl | rfl | rfl | rfl | rfl | rfl | rfl | rfl | rfl | rfl | ⟨h,h0,h1,h2,h3,h4,h5,h6,h7,h8,h9,h10⟩;all_goals first | rfl | decide | (rw[h];simp[h0,h1,h2,h3,h4,h5,h6,h7,h8,h9,h10])
  · show (if isP T 5 [33,61] ⟨i,none⟩=true then [33,61] else (if isP T 5 [61,61] ⟨i,none⟩=true then [61,61] else ([]:List UInt8)))=_;rw[m [33,61] (by decide),m [61,61] (by decide)];simp only[decide_eq_true_eq];generalize jbg T i=y;rcases jfb y with rfl | rfl | rfl | rfl | rfl | rfl | rfl | rfl | rfl | rfl | rfl | ⟨h,h0,h1,h2,h3,h4,h5,h6,h7,h8,h9,h10⟩;all_goals first | rfl | decide | (rw[h];simp[h0,h1,h2,h3,h4,h5,h6,h7,h8,h9,h10])
  · show (if isP T 5 [62] ⟨i,none⟩=true then [62] else (if isP T 5 [60] ⟨i,none⟩=true then [60] else ([]:List UInt8)))=_;rw[m [62] (by decide),m [60] (by decide)];simp only[decide_eq_true_eq];generalize jbg T i=y;rcases jfb y with rfl | rfl | rfl | rfl | rfl | rfl | rfl | rfl | rfl | rfl | rfl | ⟨h,h0,h1,h2,h3,h4,h5,h6,h7,h8,h9,h10⟩;all_goals first | rfl | decide | (rw[h];simp[h0,h1,h2,h3,h4,h5,h6,h7,h8,h9,h10])
  · show (if isP T 5 [45] ⟨i,none⟩=true then [45] else (if isP T 5 [43] ⟨i,none⟩=true then [43] else ([]:List UInt8)))=_;rw[m [45] (by decide),m [43] (by decide)];simp only[decide_eq_true_eq];generalize jbg T i=y;rcases jfb y with rfl | rfl | rfl | rfl | rfl | rfl | rfl | rfl | rfl | rfl | rfl | ⟨h,h0,h1,h2,h3,h4,h5,h6,h7,h8,h9,h10⟩;all_goals first | rfl | decide | (rw[h];simp[h0,h1,h2,h3,h4,h5,h6,h7,h8,h9,h10])
  · show (if isP T 5 [37] ⟨i,none⟩=true then [37] else (if isP T 5 [47] ⟨i,none⟩=true then [47] else (if isP T 5 [42] ⟨i,none⟩=true then [42] else ([]:List UInt8))))=_;rw[m [37] (by decide),m [47] (by decide),m [42] (by decide)];simp only[decide_eq_true_eq];generalize jbg T i=y;rcases jfb y with rfl | rfl | rfl | rfl | rfl | rfl | rfl | rfl | rfl | rfl | rfl | ⟨h,h0,h1,h2,h3,h4,h5,h6,h7,h8,h9,h10⟩;all_goals first | rfl | decide | (rw[h];simp[h0,h1,h2,h3,h4,h5,h6,h7,h8,h9,h10])
theorem ndq_of {f:Nat} {nt:NT} {i:Nat} {x:Nd} {s':Ps} {g:Nat} (hg:f≤g) (h:jaw T len f nt ⟨i,none⟩=some (x,s')):NdQ (jbc T len g nt i) x s':=jkj hg h
theorem bin_ser (hT:jad T=true) (lvl:Nat) (hl:lvl<6) (f:Nat):∀g,g≤f→∀(n:Nd) (i:Nat) (x:Nd) (s':Ps),jaw T len g (.binRest lvl n) ⟨i,none⟩=some (x,s')→NdQ (binL T (jbc T len f) lvl n.at_ g n i) x s':=by
  intro g
  induction g with
  | zero=>intro _ n i x s' h;cases h
  | succ g ih =>
    intro hg n i x s' h;have h:bBin T (jaw T len g) lvl n ⟨i,none⟩=some (x,s'):=h;unfold bBin at h;unfold binL;simp only[op_level hT lvl hl,Option.isSome,Bool.false_eq_true,false_or] at h;by_cases c:jfc (jbg T i)=lvl+1
    · (have hne:jbg T i≠[]:=fun e=>by rw[e] at c;exact absurd c (by show (0:Nat)≠_;omega));rw[if_pos c] at h ⊢;rw[if_neg hne] at h;obtain ⟨b,s1,h1,h2⟩:=ja2.1 h;rcases ndq_of (Nat.le_of_lt hg) h1 with ⟨j,rfl,e⟩ | ⟨j,a,rfl,e⟩
      · have e:jbc T len f (.expr (lvl+1)) (i+1)=some (.ok (b,j)):=e;simp only[e,jaf];rw[fix_txt hne];exact ih (by omega) _ j x s' h2
      · have e:jbc T len f (.expr (lvl+1)) (i+1)=some (.error a):=e;simp only[e,jaf];obtain rfl:=jcq h2;exact Or.inr ⟨j,a,rfl,rfl⟩
    · rw[if_neg c] at h ⊢;rw[if_pos rfl] at h;cases h;exact Or.inl ⟨i,rfl,rfl⟩
theorem s_expr (hT:jad T=true) {f lvl i:Nat} {r:Nd × Ps} (h:jl7 (jaw T len f) lvl ⟨i,none⟩=some r):exprQ T len (jbc T len f) f lvl i=some (ocN r):=by
  unfold jl7 at h;unfold exprQ;by_cases c:6≤lvl
  · rw[if_pos c] at h ⊢;unfold jbc;rw[h];try rfl
  rw[if_neg c] at h ⊢;obtain ⟨n,s1,h1,h2⟩:=ja2.1 h;obtain ⟨x,s'⟩:=r;rcases jdl h1 with ⟨j,rfl,e⟩ | ⟨j,a,rfl,e⟩<;>simp only[e,jaf]
  · have ha:=(read_at f _ n ⟨j,none⟩ rfl).1 _ h1;rcases bin_ser hT lvl (by omega) f f (Nat.le_refl f) n j x s' h2 with ⟨q,rfl,e⟩ | ⟨q,a,rfl,e⟩
    · rw[ha] at e;exact e
    · rw[ha] at e;exact e
  · obtain rfl:=jcq h2;rfl
theorem st_arg {f g:Nat} (hg:g≤f) {i:Nat} {x:Nd} {s':Ps} (h:(if jbi T ⟨i,none⟩=7 then some (jco T len false ⟨i,none⟩) else jaw T len g (.expr 0) ⟨i,none⟩)=some (x,s')):NdQ (argQ T len (jbc T len f) i) x s':=by
  rw[show jbi T ⟨i,none⟩=kT T i from rfl] at h;unfold argQ;by_cases c:kT T i=7
  · rw[if_pos c] at h ⊢;rw[jk4 0 (Or.inr c),if_pos c] at h;cases h;exact Or.inl ⟨_,rfl,rfl⟩
  · rw[if_neg c] at h ⊢;exact ndq_of hg h
theorem args_rest (hT:jad T=true) (f:Nat):∀g,g≤f→∀(i:Nat) (l:Nd) (s':Ps),jaw T len g (.argsL false) ⟨i,none⟩=some (l,s') →
    (∃j,s'=⟨j,none⟩∧jbg T j=[41]∧jih T (argQ T len (jbc T len f)) g i=some (.ok (l.kids,j))) ∨
    (∃j a,s'=⟨j,some a⟩∧(jaf (jih T (argQ T len (jbc T len f)) g i) fun (l:List Nd) j2=>jaf (some (jbx T len [41] j2)) fun _ j3=>some (.ok (l,j3)))=some (.error a)):=by
  refine par_ser (RS:=fun g s=>jaw T len g (.argsL false) s) f (fun _=>rfl) ?_;intro g hg i l s' h;have h:jh9 T len (jaw T len g) false ⟨i,none⟩=some (l,s'):=h;unfold jh9 at h;simp only[jd5 hT 5 [41] (Or.inr ⟨rfl,rfl⟩),decide_eq_true_eq,Option.isSome,Bool.false_eq_true,false_or,if_false] at h;by_cases c1:jbg T i=[41]
  · rw[if_pos c1] at h;cases h;exact Or.inl ⟨c1,rfl,rfl⟩
  rw[if_neg c1,jg3 hT 5 [44] (Or.inr ⟨rfl,rfl⟩)] at h;obtain ⟨x,s1,h1,h2⟩:=ja2.1 h;obtain ⟨l',s2,h3,h4⟩:=ja2.1 h2;cases h4;by_cases c2:jbg T i=[44]
  · rw[if_pos c2] at h1;refine Or.inr (Or.inr ⟨c2,?_⟩);rcases st_arg (Nat.le_of_lt hg) h1 with ⟨j,rfl,e⟩ | ⟨j,a,rfl,e⟩
    · exact Or.inr ⟨x,j,l',e,h3,rfl⟩
    · obtain rfl:=jcq h3;exact Or.inl ⟨j,a,rfl,e⟩
  · rw[if_neg c2,if_neg (show ¬jbi T ⟨i,some (faP T len i)⟩=7 from by show ¬(0:Int)=7;decide)] at h1;obtain rfl:=jcq h1;obtain rfl:=jcq h3;exact Or.inr (Or.inl ⟨c1,c2,i,rfl⟩)
theorem args_in (hT:jad T=true) {f i:Nat} {x:Nd} {s':Ps} (h0:jbg T i=[40]) (h:jaw T len f .args ⟨i+1,none⟩=some (x,s')) :
    (∃j,s'=⟨j,none⟩∧jk8 T len (argQ T len (jbc T len f)) f i=some (.ok (jbm x.kids (laP T (i+1)),j)))∨(∃j a,s'=⟨j,some a⟩∧jk8 T len (argQ T len (jbc T len f)) f i=some (.error a)):=by
  cases f with
  | zero=>cases h
  | succ f =>
    have h:jn6 T len (jaw T len f) ⟨i+1,none⟩=some (x,s'):=h;unfold jn6 at h;obtain ⟨l,s1,h1,h2⟩:=ja2.1 h;cases h2;unfold jk8;simp only[jfq h0,jaf]
    cases f with
    | zero=>cases h1
    | succ f =>
      have h1:jh9 T len (jaw T len f) true ⟨i+1,none⟩=some (x,s1):=h1;unfold jh9 at h1;simp only[jd5 hT 5 [41] (Or.inr ⟨rfl,rfl⟩),decide_eq_true_eq,Option.isSome,Bool.false_eq_true,false_or,if_true] at h1;by_cases c1:jbg T (i+1)=[41]
      · rw[if_pos c1] at h1;cases h1;rw[if_pos c1,jg3 hT 5 [41] (Or.inr ⟨rfl,rfl⟩),if_pos c1];exact Or.inl ⟨_,rfl,rfl⟩
      rw[if_neg c1] at h1;rw[if_neg c1];obtain ⟨y,s2,h3,h4⟩:=ja2.1 h1;obtain ⟨l',s3,h5,h6⟩:=ja2.1 h4;cases h6;have hs:∀R,jmb T (argQ T len (jbc T len (f+1+1))) (f+1) (i+1)=some R→jmb T (argQ T len (jbc T len (f+1+1))) (f+1+1) (i+1)=some R:=fun R h=>serQ_more _ _ _ _ h;rcases st_arg (f:=f+1+1) (by omega) h3 with ⟨j,rfl,e⟩ | ⟨j,a,rfl,e⟩
      · rcases args_rest hT (f+1+1) f (by omega) j l' _ h5 with ⟨q,rfl,hq,e2⟩ | ⟨q,a,rfl,e2⟩
        · have:=hs (.ok (y :: l'.kids,q)) (by rw[jgv,e];simp only[jaf,e2]);simp only[this,jfq hq];rw[jg3 hT 5 [41] (Or.inr ⟨rfl,rfl⟩),if_pos hq];exact Or.inl ⟨_,rfl,rfl⟩
        · rw[jdf (by decide)];refine Or.inr ⟨q,a,rfl,?_⟩;rcases ho:jih T (argQ T len (jbc T len (f+1+1))) f j with _ | b | z
          · rw[ho] at e2;cases e2
          · rw[ho] at e2;(obtain rfl:b=a:=by cases e2;rfl);have:=hs (.error b) (by rw[jgv,e];simp only[jaf,ho]);simp only[this]
          · rw[ho] at e2;have:=hs (.ok (y :: z.1,z.2)) (by rw[jgv,e];simp only[jaf,ho]);simp only[this];simp only[jaf] at e2
            cases hw:jbx T len [41] z.2 with
            | error b=>rw[hw] at e2;cases e2;rfl
            | ok w=>rw[hw] at e2;cases e2
      · obtain rfl:=jcq h5;rw[jdf (by decide)];have:=hs (.error a) (by rw[jgv,e];rfl);simp only[this];exact Or.inr ⟨j,a,rfl,rfl⟩
end
end
end Go.Proofs.YtonoklmobocikaaGreatDoor
