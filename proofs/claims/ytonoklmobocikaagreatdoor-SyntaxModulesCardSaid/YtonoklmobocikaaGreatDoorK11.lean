/- Lemmas. -/
import Derived.Test.YtonoklmobocikaaGreatDoorK10
set_option linter.unusedVariables false
set_option linter.unusedSimpArgs false
set_option maxRecDepth 20000
set_option maxHeartbeats 6400000
namespace Go.Proofs.YtonoklmobocikaaGreatDoor
section
def jfc (x:List UInt8):Nat :=
  if x=[124,124] then 1 else if x=[38,38] then 2 else if x=[61,61]∨x=[33,61] then 3 else if x=[60]∨x=[62] then 4 else if x=[43]∨x=[45] then 5 else if x=[42]∨x=[47]∨x=[37] then 6 else 0
def NdQ (o:Option (Oc Nd)) (x:Nd) (s':Ps):Prop:=(∃j,s'=⟨j,none⟩∧o=some (.ok (x,j)))∨(∃j a,s'=⟨j,some a⟩∧o=some (.error a))
section
variable (T:List Tk) (len:Int) (rec:NT→Nat→Option (Oc Nd))
def argQ (i:Nat):Option (Oc Nd):=if kT T i=7 then some (.ok (leafQ T len 26 i,i+1)) else rec (.expr 0) i
def binL (lvl:Nat) (at_:Int):Nat→Nd→Nat→Option (Oc Nd)
  | 0,_,_=>none
  | k+1,n,i=>if jfc (jbg T i)=lvl+1 then jaf (rec (.expr (lvl+1)) (i+1)) fun b j=>binL lvl at_ k (.mk 23 (tT T i) at_ (laP T j) [n,b]) j else some (.ok (n,i))
def exprQ (k lvl i:Nat):Option (Oc Nd):=if 6≤lvl then rec .unary i else jaf (rec (.expr (lvl+1)) i) fun n j=>binL T rec lvl (faP T len i) k n j
def jjj (a:Int) (f:Nat):Nat→Nd→Nat→Option (Oc Nd)
  | 0,_,_=>none
  | k+1,n,i=>if jbg T i=[46] then jaf (some (jeb T len (i+1))) fun x j=>jjj a f k (.mk 19 x a (laP T j) [n]) j
    else if jbg T i=[40] then jaf (jk8 T len (argQ T len rec) f i) fun l j=>jjj a f k (.mk 20 [] a (laP T j) (n :: l.kids)) j
    else some (.ok (n,i))
def unaryQ (k i:Nat):Option (Oc Nd) :=
  if jbg T i=[33]∨jbg T i=[45] then jaf (rec .unary (i+1)) fun a j=>some (.ok (.mk 22 (tT T i) (faP T len i) (laP T j) [a],j))
  else jaf (rec .primary i) fun n j=>jjj T len rec (faP T len i) k k n j
def newQ (k i:Nat):Option (Oc Nd):=jaf (some (jbx T len xNew i)) fun _ j=>jaf (some (jjn T len j)) fun x j2=>jaf (jk8 T len (argQ T len rec) k j2) fun l j3=>some (.ok (.mk 21 x (faP T len i) (laP T j3) l.kids,j3))
def groupQ (i:Nat):Option (Oc Nd):=jaf (testQ T len rec i) fun n j=>some (.ok (.mk n.kind n.text (faP T len i) (laP T j) n.kids,j))
def primQ (k i:Nat):Option (Oc Nd) :=
  if kT T i=1 then some (.ok (leafQ T len 15 i,i+1)) else if kT T i=3 then some (.ok (leafQ T len 16 i,i+1)) else if kT T i=4 then some (.ok (leafQ T len 17 i,i+1)) else if kT T i=6 then some (.ok (leafQ T len 25 i,i+1))
  else if jdu (jbg T i)=true then some (.ok (leafQ T len 18 i,i+1)) else if jbg T i=xNew then newQ T len rec k i else if jbg T i=[40] then groupQ T len rec i else some (.error (faP T len i))
end
section
variable {T:List Tk} {len:Int}
theorem read_at:∀(f:Nat) (s:Ps) (x:Nd) (s':Ps),s'.bad=none→(∀lvl,jaw T len f (.expr lvl) s=some (x,s')→x.at_=jaq T len s)∧(jaw T len f .unary s=some (x,s')→x.at_=jaq T len s)∧(jaw T len f .primary s=some (x,s')→x.at_=jaq T len s) ∧
    (∀lvl n,jaw T len f (.binRest lvl n) s=some (x,s')→x.at_=n.at_)∧(∀n,jaw T len f (.postRest n) s=some (x,s')→x.at_=n.at_):=by
  intro f
  induction f with
  | zero=>intro s x s' _;refine ⟨fun _ h=>?_,fun h=>?_,fun h=>?_,fun _ _ h=>?_,fun _ h=>?_⟩<;>cases h
  | succ f ih =>
    intro s x s' hb
    have nb:∀{nt:NT} {s1 s2:Ps} {y:Nd},jaw T len f nt s1=some (y,s2)→s2.bad=none→s1.bad=none:=by
      intro nt s1 s2 y h h2
      cases h1:s1.bad with
      | none=>rfl
      | some a =>
        have:=read_badS (by rw[h1];rfl) h;subst this;rw[h1] at h2;cases h2
    refine ⟨fun lvl h=>?_,fun h=>?_,fun h=>?_,fun lvl n h=>?_,fun n h=>?_⟩
    · have h:jl7 (jaw T len f) lvl s=some (x,s'):=h;unfold jl7 at h;split at h
      · exact (ih s x s' hb).2.1 h
      · obtain ⟨n,s1,h1,h2⟩:=ja2.1 h;rw[(ih s1 x s' hb).2.2.2.1 _ _ h2];exact (ih s n s1 (nb h2 hb)).1 _ h1
    · have h:jhp T len (jaw T len f) s=some (x,s'):=h;unfold jhp at h;split at h
      · obtain ⟨n,s1,h1,h2⟩:=ja2.1 h;cases h2;rfl
      · obtain ⟨n,s1,h1,h2⟩:=ja2.1 h;rw[(ih s1 x s' hb).2.2.2.2 _ h2];exact (ih s n s1 (nb h2 hb)).2.2.1 h1
    · have h:jdv T len (jaw T len f) s=some (x,s'):=h;unfold jdv at h;dsimp only at h;split at h
      · cases h;rfl
      split at h
      · cases h;rfl
      split at h
      · cases h;rfl
      split at h
      · cases h;rfl
      split at h
      · obtain ⟨n,s1,h1,h2⟩:=ja2.1 h;cases h2;rfl
      split at h
      · cases h;rfl
      split at h
      · rename_i c;cases h;rw[hb] at c;cases c
      · obtain ⟨n,s1,h1,h2⟩:=ja2.1 h;cases h2;rfl
    · have h:bBin T (jaw T len f) lvl n s=some (x,s'):=h;unfold bBin at h;split at h
      · cases h;rfl
      · obtain ⟨b,s1,h1,h2⟩:=ja2.1 h;exact ((ih s1 x s' hb).2.2.2.1 _ _ h2).trans rfl
    · have h:jkb T len (jaw T len f) n s=some (x,s'):=h;unfold jkb at h;split at h
      · cases h;rfl
      split at h
      · exact ((ih _ x s' hb).2.2.2.2 _ h).trans rfl
      split at h
      · obtain ⟨b,s1,h1,h2⟩:=ja2.1 h;exact ((ih s1 x s' hb).2.2.2.2 _ h2).trans rfl
      · cases h;rfl
theorem fix_txt {i:Nat} (h:jbg T i≠[]):tT T i=jbg T i:=by
  unfold jbg at h ⊢;split
  · rfl
  · rename_i c;rw[if_neg c] at h;exact absurd rfl h
theorem jfb (y:List UInt8):y=[124,124]∨y=[38,38]∨y=[61,61]∨y=[33,61]∨y=[60]∨y=[62]∨y=[43]∨y=[45]∨y=[42]∨y=[47]∨y=[37]∨(jfc y=0∧y≠[124,124]∧y≠[38,38]∧y≠[61,61]∧y≠[33,61]∧y≠[60]∧y≠[62]∧y≠[43]∧y≠[45]∧y≠[42]∧y≠[47]∧y≠[37]):=by
  by_cases h0:y=[124,124]
  · simp[h0]
  by_cases h1:y=[38,38]
  · simp[h1]
  by_cases h2:y=[61,61]
  · simp[h2]
  by_cases h3:y=[33,61]
  · simp[h3]
  by_cases h4:y=[60]
  · simp[h4]
  by_cases h5:y=[62]
  · simp[h5]
  by_cases h6:y=[43]
  · simp[h6]
  by_cases h7:y=[45]
  · simp[h7]
  by_cases h8:y=[42]
  · simp[h8]
  by_cases h9:y=[47]
  · simp[h9]
  by_cases h10:y=[37]
  · simp[h10]
  have hl:jfc y=0:=by
    unfold jfc;simp[h0,h1,h2,h3,h4,h5,h6,h7,h8,h9,h10]
  exact Or.inr (Or.inr (Or.inr (Or.inr (Or.inr (Or.inr (Or.inr (Or.inr (Or.inr (Or.inr (Or.inr (⟨hl,h0,h1,h2,h3,h4,h5,h6,h7,h8,h9,h10⟩)))))))))))
theorem op_level (hT:jad T=true) (lvl:Nat) (hl:lvl<6) (i:Nat):opP T lvl ⟨i,none⟩=if jfc (jbg T i)=lvl+1 then jbg T i else []:=by
  unfold opP;have m:∀x,jim x=true→isP T 5 x ⟨i,none⟩=decide (jbg T i=x):=fun x hx=>jd5 hT 5 x (Or.inr ⟨rfl,hx⟩) i;(have hl:lvl=0∨lvl=1∨lvl=2∨lvl=3∨lvl=4∨lvl=5:=by omega);rcases hl with rfl | rfl | rfl | rfl | rfl | rfl
  · show (if isP T 5 [124,124] ⟨i,none⟩=true then [124,124] else ([]:List UInt8))=_;rw[m [124,124] (by decide)];simp only[decide_eq_true_eq];generalize jbg T i=y;rcases jfb y with rfl | rfl | rfl | rfl | rfl | rfl | rfl | rfl | rfl | rfl | rfl | ⟨h,h0,h1,h2,h3,h4,h5,h6,h7,h8,h9,h10⟩;all_goals first | rfl | decide | (rw[h];simp[h0,h1,h2,h3,h4,h5,h6,h7,h8,h9,h10])
  · show (if isP T 5 [38,38] ⟨i,none⟩=true then [38,38] else ([]:List UInt8))=_;rw[m [38,38] (by decide)];simp only[decide_eq_true_eq];generalize jbg T i=y;rcases jfb y with rfl | rfl | rfl | rfl | rfl | rfl | rfl | rfl | rfl | rfl | rfl | ⟨h,h0,h1,h2,h3,h4,h5,h6,h7,h8,h9,h10⟩;all_goals first | rfl | decide | (rw[h];simp[h0,h1,h2,h3,h4,h5,h6,h7,h8,h9,h10])
  · show (if isP T 5 [33,61] ⟨i,none⟩=true then [33,61] else (if isP T 5 [61,61] ⟨i,none⟩=true then [61,61] else ([]:List UInt8)))=_;rw[m [33,61] (by decide),m [61,61] (by decide)];simp only[decide_eq_true_eq];generalize jbg T i=y;rcases jfb y with rfl | rfl | rfl | rfl | rfl | rfl | rfl | rfl | rfl | rfl | rfl | ⟨h,h0,h1,h2,h3,h4,h5,h6,h7,h8,h9,h10⟩;all_goals first | rfl | decide | (rw[h];simp[h0,h1,h2,h3,h4,h5,h6,h7,h8,h9,h10])
  · show (if isP T 5 [62] ⟨i,none⟩=true then [62] else (if isP T 5 [60] ⟨i,none⟩=true then [60] else ([]:List UInt8)))=_;rw[m [62] (by decide),m [60] (by decide)];simp only[decide_eq_true_eq];generalize jbg T i=y;rcases jfb y with rfl | rfl | rfl | rfl | rfl | rfl | rfl | rfl | rfl | rfl | rfl | ⟨h,h0,h1,h2,h3,h4,h5,h6,h7,h8,h9,h10⟩;all_goals first | rfl | decide | (rw[h];simp[h0,h1,h2,h3,h4,h5,h6,h7,h8,h9,h10])
  · show (if isP T 5 [45] ⟨i,none⟩=true then [45] else (if isP T 5 [43] ⟨i,none⟩=true then [43] else ([]:List UInt8)))=_;rw[m [45] (by decide),m [43] (by decide)];simp only[decide_eq_true_eq];generalize jbg T i=y;rcases jfb y with rfl | rfl | rfl | rfl | rfl | rfl | rfl | rfl | rfl | rfl | rfl | ⟨h,h0,h1,h2,h3,h4,h5,h6,h7,h8,h9,h10⟩;all_goals first | rfl | decide | (rw[h];simp[h0,h1,h2,h3,h4,h5,h6,h7,h8,h9,h10])
  · show (if isP T 5 [37] ⟨i,none⟩=true then [37] else (if isP T 5 [47] ⟨i,none⟩=true then [47] else (if isP T 5 [42] ⟨i,none⟩=true then [42] else ([]:List UInt8))))=_;rw[m [37] (by decide),m [47] (by decide),m [42] (by decide)];simp only[decide_eq_true_eq];generalize jbg T i=y;rcases jfb y with rfl | rfl | rfl | rfl | rfl | rfl | rfl | rfl | rfl | rfl | rfl | ⟨h,h0,h1,h2,h3,h4,h5,h6,h7,h8,h9,h10⟩;all_goals first | rfl | decide | (rw[h];simp[h0,h1,h2,h3,h4,h5,h6,h7,h8,h9,h10])
theorem ndq_of {f:Nat} {nt:NT} {i:Nat} {x:Nd} {s':Ps} {g:Nat} (hg:f≤g) (h:jaw T len f nt ⟨i,none⟩=some (x,s')):NdQ (jbc T len g nt i) x s':=jkj hg h
theorem bin_ser (hT:jad T=true) (lvl:Nat) (hl:lvl<6) (f:Nat):∀g,g≤f→∀(n:Nd) (i:Nat) (x:Nd) (s':Ps),jaw T len g (.binRest lvl n) ⟨i,none⟩=some (x,s')→NdQ (binL T (jbc T len f) lvl n.at_ g n i) x s':=by
  intro g
  induction g with
  | zero=>intro _ n i x s' h;cases h
  | succ g ih =>
    intro hg n i x s' h;have h:bBin T (jaw T len g) lvl n ⟨i,none⟩=some (x,s'):=h;unfold bBin at h;unfold binL;simp only[op_level hT lvl hl,Option.isSome,Bool.false_eq_true,false_or] at h;by_cases c:jfc (jbg T i)=lvl+1
    · (have hne:jbg T i≠[]:=fun e=>by rw[e] at c;exact absurd c (by show (0:Nat)≠_;omega));rw[if_pos c] at h ⊢;rw[if_neg hne] at h;obtain ⟨b,s1,h1,h2⟩:=ja2.1 h;rcases ndq_of (Nat.le_of_lt hg) h1 with ⟨j,rfl,e⟩ | ⟨j,a,rfl,e⟩
      · have e:jbc T len f (.expr (lvl+1)) (i+1)=some (.ok (b,j)):=e;simp only[e,jaf];rw[fix_txt hne];exact ih (by omega) _ j x s' h2
      · have e:jbc T len f (.expr (lvl+1)) (i+1)=some (.error a):=e;simp only[e,jaf];obtain rfl:=jcq h2;exact Or.inr ⟨j,a,rfl,rfl⟩
    · rw[if_neg c] at h ⊢;rw[if_pos rfl] at h;cases h;exact Or.inl ⟨i,rfl,rfl⟩
theorem s_expr (hT:jad T=true) {f lvl i:Nat} {r:Nd × Ps} (h:jl7 (jaw T len f) lvl ⟨i,none⟩=some r):exprQ T len (jbc T len f) f lvl i=some (ocN r):=by
  unfold jl7 at h;unfold exprQ;by_cases c:6≤lvl
  · rw[if_pos c] at h ⊢;unfold jbc;rw[h];try rfl
  rw[if_neg c] at h ⊢;obtain ⟨n,s1,h1,h2⟩:=ja2.1 h;obtain ⟨x,s'⟩:=r;rcases jdl h1 with ⟨j,rfl,e⟩ | ⟨j,a,rfl,e⟩<;>simp only[e,jaf]
  · have ha:=(read_at f _ n ⟨j,none⟩ rfl).1 _ h1;rcases bin_ser hT lvl (by omega) f f (Nat.le_refl f) n j x s' h2 with ⟨q,rfl,e⟩ | ⟨q,a,rfl,e⟩
    · rw[ha] at e;exact e
    · rw[ha] at e;exact e
  · obtain rfl:=jcq h2;rfl
theorem st_arg {f g:Nat} (hg:g≤f) {i:Nat} {x:Nd} {s':Ps} (h:(if jbi T ⟨i,none⟩=7 then some (jco T len false ⟨i,none⟩) else jaw T len g (.expr 0) ⟨i,none⟩)=some (x,s')):NdQ (argQ T len (jbc T len f) i) x s':=by
  rw[show jbi T ⟨i,none⟩=kT T i from rfl] at h;unfold argQ;by_cases c:kT T i=7
  · rw[if_pos c] at h ⊢;rw[jk4 0 (Or.inr c),if_pos c] at h;cases h;exact Or.inl ⟨_,rfl,rfl⟩
  · rw[if_neg c] at h ⊢;exact ndq_of hg h
theorem args_rest (hT:jad T=true) (f:Nat):∀g,g≤f→∀(i:Nat) (l:Nd) (s':Ps),jaw T len g (.argsL false) ⟨i,none⟩=some (l,s') →
    (∃j,s'=⟨j,none⟩∧jbg T j=[41]∧jih T (argQ T len (jbc T len f)) g i=some (.ok (l.kids,j))) ∨
    (∃j a,s'=⟨j,some a⟩∧(jaf (jih T (argQ T len (jbc T len f)) g i) fun (l:List Nd) j2=>jaf (some (jbx T len [41] j2)) fun _ j3=>some (.ok (l,j3)))=some (.error a)):=by
  refine par_ser (RS:=fun g s=>jaw T len g (.argsL false) s) f (fun _=>rfl) ?_;intro g hg i l s' h;have h:jh9 T len (jaw T len g) false ⟨i,none⟩=some (l,s'):=h;unfold jh9 at h;simp only[jd5 hT 5 [41] (Or.inr ⟨rfl,rfl⟩),decide_eq_true_eq,Option.isSome,Bool.false_eq_true,false_or,if_false] at h;by_cases c1:jbg T i=[41]
  · rw[if_pos c1] at h;cases h;exact Or.inl ⟨c1,rfl,rfl⟩
  rw[if_neg c1,jg3 hT 5 [44] (Or.inr ⟨rfl,rfl⟩)] at h;obtain ⟨x,s1,h1,h2⟩:=ja2.1 h;obtain ⟨l',s2,h3,h4⟩:=ja2.1 h2;cases h4;by_cases c2:jbg T i=[44]
  · rw[if_pos c2] at h1;refine Or.inr (Or.inr ⟨c2,?_⟩);rcases st_arg (Nat.le_of_lt hg) h1 with ⟨j,rfl,e⟩ | ⟨j,a,rfl,e⟩
    · exact Or.inr ⟨x,j,l',e,h3,rfl⟩
    · obtain rfl:=jcq h3;exact Or.inl ⟨j,a,rfl,e⟩
  · rw[if_neg c2,if_neg (show ¬jbi T ⟨i,some (faP T len i)⟩=7 from by show ¬(0:Int)=7;decide)] at h1;obtain rfl:=jcq h1;obtain rfl:=jcq h3;exact Or.inr (Or.inl ⟨c1,c2,i,rfl⟩)
theorem args_in (hT:jad T=true) {f i:Nat} {x:Nd} {s':Ps} (h0:jbg T i=[40]) (h:jaw T len f .args ⟨i+1,none⟩=some (x,s')) :
    (∃j,s'=⟨j,none⟩∧jk8 T len (argQ T len (jbc T len f)) f i=some (.ok (jbm x.kids (laP T (i+1)),j)))∨(∃j a,s'=⟨j,some a⟩∧jk8 T len (argQ T len (jbc T len f)) f i=some (.error a)):=by
  cases f with
  | zero=>cases h
  | succ f =>
    have h:jn6 T len (jaw T len f) ⟨i+1,none⟩=some (x,s'):=h;unfold jn6 at h;obtain ⟨l,s1,h1,h2⟩:=ja2.1 h;cases h2;unfold jk8;simp only[jfq h0,jaf]
    cases f with
    | zero=>cases h1
    | succ f =>
      have h1:jh9 T len (jaw T len f) true ⟨i+1,none⟩=some (x,s1):=h1;unfold jh9 at h1;simp only[jd5 hT 5 [41] (Or.inr ⟨rfl,rfl⟩),decide_eq_true_eq,Option.isSome,Bool.false_eq_true,false_or,if_true] at h1;by_cases c1:jbg T (i+1)=[41]
      · rw[if_pos c1] at h1;cases h1;rw[if_pos c1,jg3 hT 5 [41] (Or.inr ⟨rfl,rfl⟩),if_pos c1];exact Or.inl ⟨_,rfl,rfl⟩
      rw[if_neg c1] at h1;rw[if_neg c1];obtain ⟨y,s2,h3,h4⟩:=ja2.1 h1;obtain ⟨l',s3,h5,h6⟩:=ja2.1 h4;cases h6;have hs:∀R,jmb T (argQ T len (jbc T len (f+1+1))) (f+1) (i+1)=some R→jmb T (argQ T len (jbc T len (f+1+1))) (f+1+1) (i+1)=some R:=fun R h=>serQ_more _ _ _ _ h;rcases st_arg (f:=f+1+1) (by omega) h3 with ⟨j,rfl,e⟩ | ⟨j,a,rfl,e⟩
      · rcases args_rest hT (f+1+1) f (by omega) j l' _ h5 with ⟨q,rfl,hq,e2⟩ | ⟨q,a,rfl,e2⟩
        · have:=hs (.ok (y :: l'.kids,q)) (by rw[jgv,e];simp only[jaf,e2]);simp only[this,jfq hq];rw[jg3 hT 5 [41] (Or.inr ⟨rfl,rfl⟩),if_pos hq];exact Or.inl ⟨_,rfl,rfl⟩
        · rw[jdf (by decide)];refine Or.inr ⟨q,a,rfl,?_⟩;rcases ho:jih T (argQ T len (jbc T len (f+1+1))) f j with _ | b | z
          · rw[ho] at e2;cases e2
          · rw[ho] at e2;(obtain rfl:b=a:=by cases e2;rfl);have:=hs (.error b) (by rw[jgv,e];simp only[jaf,ho]);simp only[this]
          · rw[ho] at e2;have:=hs (.ok (y :: z.1,z.2)) (by rw[jgv,e];simp only[jaf,ho]);simp only[this];simp only[jaf] at e2
            cases hw:jbx T len [41] z.2 with
            | error b=>rw[hw] at e2;cases e2;rfl
            | ok w=>rw[hw] at e2;cases e2
      · obtain rfl:=jcq h5;rw[jdf (by decide)];have:=hs (.error a) (by rw[jgv,e];rfl);simp only[this];exact Or.inr ⟨j,a,rfl,rfl⟩
end
end
section
section
variable {T:List Tk} {len:Int}
theorem listN_kids (l:List Nd) (a:Int):(jbm l a).kids=l:=rfl
theorem post_ser (hT:jad T=true) (f:Nat):∀g,g≤f→∀(n:Nd) (i:Nat) (x:Nd) (s':Ps),jaw T len g (.postRest n) ⟨i,none⟩=some (x,s')→NdQ (jjj T len (jbc T len f) n.at_ f g n i) x s':=by
  intro g
  induction g with
  | zero=>intro _ n i x s' h;cases h
  | succ g ih =>
    intro hg n i x s' h;have h:jkb T len (jaw T len g) n ⟨i,none⟩=some (x,s'):=h;unfold jkb at h;unfold jjj;simp only[jd5 hT 5 [46] (Or.inr ⟨rfl,rfl⟩),jd5 hT 5 [40] (Or.inr ⟨rfl,rfl⟩),decide_eq_true_eq,Option.isSome,Bool.false_eq_true,if_false,jbb] at h;by_cases c1:jbg T i=[46]
    · rw[if_pos c1] at h ⊢;rcases jjq (T:=T) (len:=len) (i+1) with ⟨y,j,e1,e2⟩ | ⟨a,y,j,e1,e2⟩<;>simp only[e1,e2,jaf] at h ⊢
      · exact ih (by omega) _ j x s' h
      · obtain rfl:=jcq h;exact Or.inr ⟨j,a,rfl,rfl⟩
    rw[if_neg c1] at h ⊢;by_cases c2:jbg T i=[40]
    · rw[if_pos c2] at h ⊢;obtain ⟨l,s1,h1,h2⟩:=ja2.1 h;rcases args_in hT c2 (jef h1 (Nat.le_of_lt hg)) with ⟨j,rfl,e⟩ | ⟨j,a,rfl,e⟩<;>simp only[e,jaf,listN_kids]
      · exact ih (by omega) _ j x s' h2
      · obtain rfl:=jcq h2;exact Or.inr ⟨j,a,rfl,rfl⟩
    · rw[if_neg c2] at h ⊢;cases h;exact Or.inl ⟨i,rfl,rfl⟩
theorem is_kind' {k:Int} {x:List UInt8} {i:Nat} (h:isP T k x ⟨i,none⟩=true):kT T i=k:=by
  unfold isP at h;rw[Bool.and_eq_true,beq_iff_eq] at h;exact h.1
theorem text_k (i:Nat) {k:Int} (h:kT T i=k):jai T len k ⟨i,none⟩=(tT T i,⟨i+1,none⟩):=by
  unfold jai;rw[if_pos (show jbi T ⟨i,none⟩=k from h)];try rfl
theorem text_5 (i:Nat) (h:jbg T i=[33]∨jbg T i=[45]) (hT:jad T=true):jai T len 5 ⟨i,none⟩=(tT T i,⟨i+1,none⟩):=by
  have hk:kT T i=5:=by
    (have hx:isP T 5 (jbg T i) ⟨i,none⟩=true:=by rw[jd5 hT 5 _ (Or.inr ⟨rfl,by rcases h with h | h<;>rw[h]<;>decide⟩)];simp);exact is_kind' hx
  exact text_k i hk
theorem s_unary (hT:jad T=true) {f i:Nat} {r:Nd × Ps} (h:jhp T len (jaw T len f) ⟨i,none⟩=some r):unaryQ T len (jbc T len f) f i=some (ocN r):=by
  unfold jhp at h;unfold unaryQ;simp only[jd5 hT 5 [33] (Or.inr ⟨rfl,rfl⟩),jd5 hT 5 [45] (Or.inr ⟨rfl,rfl⟩),decide_eq_true_eq] at h;by_cases c:jbg T i=[33]∨jbg T i=[45]
  · rw[if_pos c] at h ⊢;simp only[text_5 i c hT] at h;obtain ⟨a,s1,h1,h2⟩:=ja2.1 h;rcases jdl h1 with ⟨j,rfl,e⟩ | ⟨j,b,rfl,e⟩<;>simp only[e,jaf]
    · cases h2;rfl
    · cases h2;rfl
  · rw[if_neg c] at h ⊢;obtain ⟨n,s1,h1,h2⟩:=ja2.1 h;obtain ⟨x,s'⟩:=r;rcases jdl h1 with ⟨j,rfl,e⟩ | ⟨j,b,rfl,e⟩<;>simp only[e,jaf]
    · have ha:=(read_at f _ n ⟨j,none⟩ rfl).2.2.1 h1;rcases post_ser hT f f (Nat.le_refl f) n j x s' h2 with ⟨q,rfl,e⟩ | ⟨q,a,rfl,e⟩
      · rw[ha] at e;exact e
      · rw[ha] at e;exact e
    · obtain rfl:=jcq h2;rfl
theorem s_prim (hT:jad T=true) {f i:Nat} {r:Nd × Ps} (h:jdv T len (jaw T len f) ⟨i,none⟩=some r):primQ T len (jbc T len f) f i=some (ocN r):=by
  unfold jdv at h;unfold primQ;simp only[jd5 hT 2 xNew (Or.inl ⟨rfl,rfl⟩),decide_eq_true_eq,show jbi T ⟨i,none⟩=kT T i from rfl] at h;by_cases c1:kT T i=1
  · rw[if_pos c1] at h ⊢;rw[text_k i c1] at h;cases h;rfl
  rw[if_neg c1] at h ⊢;by_cases c2:kT T i=3
  · rw[if_pos c2] at h ⊢;rw[text_k i c2] at h;cases h;rfl
  rw[if_neg c2] at h ⊢;by_cases c3:kT T i=4
  · rw[if_pos c3] at h ⊢;rw[text_k i c3] at h;cases h;rfl
  rw[if_neg c3] at h ⊢;by_cases c4:kT T i=6
  · rw[if_pos c4] at h ⊢;rw[jk4 0 (Or.inl c4),if_neg (by omega)] at h;cases h;rfl
  rw[if_neg c4] at h ⊢;by_cases c5:jbg T i=xNew
  · rw[if_pos c5] at h;rw[if_neg (by rw[c5];decide),if_pos c5];unfold newQ;simp only[jfq c5,jaf,jbb] at h ⊢;rcases st_name (len:=len) hT (i+1) with ⟨y,j,e1,e2⟩ | ⟨a,y,j,e1,e2⟩<;>simp only[e1,e2] at h ⊢
    · obtain ⟨l,s1,h1,h2⟩:=ja2.1 h;by_cases c:jbg T j=[40]
      · rw[jg3 hT 5 [40] (Or.inr ⟨rfl,rfl⟩),if_pos c] at h1;rcases args_in hT c h1 with ⟨q,rfl,e⟩ | ⟨q,a,rfl,e⟩<;>simp only[e,listN_kids]
        · cases h2;rfl
        · cases h2;rfl
      · rw[jg3 hT 5 [40] (Or.inr ⟨rfl,rfl⟩),if_neg c] at h1;obtain rfl:=jcq h1;unfold jk8;simp only[jn8 c,jaf];cases h2;rfl
    · obtain ⟨l,s1,h1,h2⟩:=ja2.1 h;rw[jdf (by decide)] at h1;obtain rfl:=jcq h1;cases h2;rfl
  rw[if_neg c5] at h;by_cases c6:kT T i=2∧jdu (txtP T ⟨i,none⟩)=true
  · rw[if_pos c6,text_k i c6.1] at h;(have hf:jbg T i=tT T i:=by unfold jbg;rw[if_pos (Or.inl c6.1)]);rw[if_pos (by rw[hf];exact c6.2)];cases h;rfl
  rw[if_neg c6] at h
  have nc:¬jdu (jbg T i)=true:=by
    intro hc
    have hk:jjm (jbg T i)=true:=by
      unfold jdu at hc;simp only[Bool.or_eq_true,beq_iff_eq] at hc;rcases hc with ((hc | hc) | hc) | hc<;>rw[hc]<;>decide
    (have hx:isP T 2 (jbg T i) ⟨i,none⟩=true:=by rw[jd5 hT 2 _ (Or.inl ⟨rfl,hk⟩)];simp);have h2:=is_kind' hx
    exact c6 ⟨h2,by
                     have hf:jbg T i=tT T i:=by unfold jbg;rw[if_pos (Or.inl h2)]
                     rw[hf] at hc;exact hc⟩
  rw[if_neg nc,if_neg c5];rw[jg3 hT 5 [40] (Or.inr ⟨rfl,rfl⟩)] at h;by_cases c7:jbg T i=[40]
  · rw[if_pos c7] at h ⊢;unfold groupQ testQ;simp only[Option.isSome,Bool.false_eq_true,if_false,jfq c7,jaf] at h ⊢;obtain ⟨l,s1,h1,h2⟩:=ja2.1 h;rcases jdl h1 with ⟨j,rfl,e⟩ | ⟨j,b,rfl,e⟩<;>simp only[e]
    · rcases jdn (len:=len) hT 5 [41] (Or.inr ⟨rfl,rfl⟩) j with ⟨q2,e1,e2⟩ | ⟨a,q2,e1,e2⟩<;>simp only[e1,e2] at h2 ⊢
      · cases h2;rfl
      · cases h2;rfl
    · rw[jdf (by decide)] at h2;cases h2;rfl
  · rw[if_neg c7] at h ⊢;simp only[Option.isSome,if_true] at h;cases h;rfl
def impL (T:List Tk) (len:Int):Nat→Nat→Option (Oc (List Nd))
  | 0,_=>none
  | k+1,i=>if jbg T i=jft then jaf (impQ T len i) fun x j=>jaf (impL T len k j) fun l j2=>some (.ok (x :: l,j2)) else some (.ok ([],i))
def decL (T:List Tk) (E:Nat→Option (Oc Nd)):Nat→Nat→Option (Oc (List Nd))
  | 0,_=>none
  | k+1,i=>if T.length≤i then some (.ok ([],i)) else jaf (E i) fun x j=>jaf (decL T E k j) fun l j2=>some (.ok (x :: l,j2))
def modQ (T:List Tk) (len:Int) (E:Nat→Option (Oc Nd)) (k:Nat):Option (Oc Nd) :=
  jaf (impL T len k 0) fun a j=>jaf (decL T E k j) fun b j2=>some (.ok (.mk 1 [] 0 len (a++b),j2))
theorem imps_ser (hT:jad T=true):∀(g i:Nat) (l:Nd) (s':Ps),jaw T len g .imports ⟨i,none⟩=some (l,s')→RowQ (impL T len g i) l s':=by
  intro g
  induction g with
  | zero=>intro i l s' h;cases h
  | succ g ih =>
    intro i l s' h;have h:jfi T len (jaw T len g) ⟨i,none⟩=some (l,s'):=h;unfold jfi at h;unfold impL;simp only[jd5 hT 2 jft (Or.inl ⟨rfl,rfl⟩),decide_eq_true_eq,jbb] at h;by_cases c:jbg T i=jft
    · rw[if_pos c] at h ⊢;unfold impQ;simp only[jfq c,jaf];rcases jjq (T:=T) (len:=len) (i+1) with ⟨y,j,e1,e2⟩ | ⟨a,y,j,e1,e2⟩<;>simp only[e1,e2] at h ⊢
      · rcases jdn (len:=len) hT 5 [59] (Or.inr ⟨rfl,rfl⟩) j with ⟨q2,e1,e2⟩ | ⟨a,q2,e1,e2⟩<;>simp only[e1,e2] at h ⊢
        · obtain ⟨l',s2,h1,h2⟩:=ja2.1 h;cases h2;rcases ih _ _ _ h1 with ⟨q,rfl,e⟩ | ⟨q,a,rfl,e⟩<;>simp only[e]
          · exact Or.inl ⟨q,rfl,rfl⟩
          · exact Or.inr ⟨q,a,rfl,rfl⟩
        · obtain ⟨l',s2,h1,h2⟩:=ja2.1 h;obtain rfl:=jcq h1;cases h2;exact Or.inr ⟨q2,a,rfl,rfl⟩
      · rw[jdf (by decide)] at h;obtain ⟨l',s2,h1,h2⟩:=ja2.1 h;obtain rfl:=jcq h1;cases h2;exact Or.inr ⟨j,a,rfl,rfl⟩
    · rw[if_neg c] at h ⊢;cases h;exact Or.inl ⟨i,rfl,rfl⟩
theorem decs_ser (f:Nat):∀g,g≤f→∀(i:Nat) (l:Nd) (s':Ps),jaw T len g .decls ⟨i,none⟩=some (l,s')→(∃j,s'=⟨j,none⟩∧T.length≤j∧decL T (jbc T len f .decl) g i=some (.ok (l.kids,j)))∨(∃j a,s'=⟨j,some a⟩∧decL T (jbc T len f .decl) g i=some (.error a)):=by
  intro g
  induction g with
  | zero=>intro _ i l s' h;cases h
  | succ g ih =>
    intro hg i l s' h;have h:jip T (jaw T len g) ⟨i,none⟩=some (l,s'):=h;unfold jip at h;unfold decL;simp only[Option.isSome,Bool.false_eq_true,false_or] at h;by_cases c:T.length≤i
    · rw[if_pos c] at h ⊢;cases h;exact Or.inl ⟨i,rfl,c,rfl⟩
    · rw[if_neg c] at h ⊢;obtain ⟨x,s1,h1,h2⟩:=ja2.1 h;obtain ⟨l',s2,h3,h4⟩:=ja2.1 h2;cases h4;rcases jkj (Nat.le_of_lt hg) h1 with ⟨j,rfl,e⟩ | ⟨j,a,rfl,e⟩<;>simp only[e,jaf]
      · rcases ih (by omega) j l' _ h3 with ⟨q,rfl,hq,e⟩ | ⟨q,a,rfl,e⟩<;>simp only[e]
        · exact Or.inl ⟨q,rfl,hq,rfl⟩
        · exact Or.inr ⟨q,a,rfl,rfl⟩
      · obtain rfl:=jcq h3;exact Or.inr ⟨j,a,rfl,rfl⟩
theorem mod_is (hT:jad T=true):∃f,modQ T len (jbc T len f .decl) f=some (ocN (modP T len))∧((modP T len).2.bad=none→T.length≤(modP T len).2.i):=by
  have h1:=jg7 (T:=T) (len:=len) .imports ⟨0,none⟩;have h2:=jg7 (T:=T) (len:=len) .decls (rd T len .imports ⟨0,none⟩).2;refine ⟨max (jcj T .imports ⟨0,none⟩+1) (jcj T .decls (rd T len .imports ⟨0,none⟩).2+1),?_⟩;generalize hF:max (jcj T .imports ⟨0,none⟩+1) (jcj T .decls (rd T len .imports ⟨0,none⟩).2+1)=F;have h1:=jef h1 (show _≤F by omega);have h2:=jef h2 (show _≤F by omega);unfold modP modQ;dsimp only;generalize rd T len .imports ⟨0,none⟩=a at h1 h2 ⊢;generalize rd T len .decls a.2=b at h2 ⊢;obtain ⟨l,s1⟩:=a;obtain ⟨m,s2⟩:=b;dsimp only at h2 ⊢;rcases imps_ser hT F 0 l s1 h1 with ⟨j,rfl,e⟩ | ⟨j,a,rfl,e⟩<;>simp only[e,jaf]
  · rcases decs_ser F F (Nat.le_refl F) j m s2 h2 with ⟨q,rfl,hq,e⟩ | ⟨q,a,rfl,e⟩<;>simp only[e]
    · exact ⟨rfl,fun _=>hq⟩
    · exact ⟨rfl,fun h=>by cases h⟩
  · obtain rfl:=jcq h2;exact ⟨rfl,fun h=>by cases h⟩
end
end
end Go.Proofs.YtonoklmobocikaaGreatDoor
