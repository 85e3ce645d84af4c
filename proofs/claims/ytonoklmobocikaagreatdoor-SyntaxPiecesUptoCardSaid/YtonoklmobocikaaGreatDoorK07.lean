/- Lemmas. -/
import Derived.Laws.ResultCell
import Derived.StillTailTactics
import Derived.Deep.Cut
import Derived.Test.YtonoklmobocikaaGreatDoorK03
set_option linter.unusedVariables false
set_option linter.unusedSimpArgs false
set_option maxRecDepth 20000
set_option maxHeartbeats 6400000
namespace Go.Proofs.YtonoklmobocikaaGreatDoor
section
def lfO (k:Int) (x:List UInt8) (l:List Nd):Option (List Tk):=if l.length=0 then some [tk1 k x] else none
def nmO (x:List UInt8) (l:List Nd) (n:Nat):Option (List Tk):=if l.length=n then some [tk1 1 x] else none
def shG (f:Nd→Option (List Tk)):List Nd→Option (List Tk)
  | []=>some []
  | n :: l=>jc9 (f n) (shG f l)
def jeh (f:Nd→Option (List Tk)) (l:List Nd) (least:Nat) (most:Option Nat):Option (List Tk):=if least≤l.length∧jmk most l.length=true then shG f l else none
def lstO (f:Nd→Option (List Tk)) (n:Nd) (least:Nat) (most:Option Nat):Option (List Tk):=if n.kind=24∧n.text=[] then jeh f n.kids least most else none
def mostV:Option Nat→Int | none=>9223372036854775807 | some k=>(k:Int)
theorem shG_snoc {f:Nd→Option (List Tk)} {l:List Nd} {i:Nat} {y:Nd} {ts t:List Tk} (hy:l[i]?=some y) (h:shG f (l.take i)=some ts) (ht:f y=some t):shG f (l.take (i+1))=some (ts++t):=by
  induction l generalizing i ts with
  | nil=>simp at hy
  | cons n l ih =>
    cases i with
    | zero =>
      simp at hy;subst hy;simp[shG] at h;subst h;simp[shG,ht,jc9]
    | succ i =>
      rw[List.getElem?_cons_succ] at hy;rw[List.take_succ_cons,shG] at h ⊢
      cases hf:f n with
      | none=>rw[hf] at h;cases h
      | some v =>
        rw[hf] at h
        cases hg:shG f (l.take i) with
        | none=>rw[hg] at h;cases h
        | some z =>
          rw[hg] at h;cases h;rw[ih hy hg];simp[jc9]
theorem shG_none {f:Nd→Option (List Tk)} {l:List Nd} {y:Nd} (hy:y∈l) (ht:f y=none):shG f l=none:=by
  induction l with
  | nil=>cases hy
  | cons n l ih =>
    rw[shG];rcases List.mem_cons.1 hy with rfl | hy
    · rw[ht];try rfl
    · rw[ih hy];cases f n<;>rfl
theorem jbp {l:List Nd} {i:Nat} {y:Nd} (hy:l[i]?=some y):ja8 (l.drop i)=sizeN y+ja8 (l.drop (i+1)):=by
  obtain ⟨h,e⟩:=List.getElem?_eq_some_iff.1 hy;rw[List.drop_eq_getElem_cons h,ja8,e]
def gd (b:Bool):Option (List Tk):=if b=true then some [] else none
def jcw (l:List Nd) (i:Nat) (w:Wh):Option (List Tk):=match l[i]? with | some y=>shO y w | none=>none
theorem jbv {l:List Nd} {i:Nat} {y:Nd} {w:Wh} (h:l[i]?=some y):jcw l i w=shO y w:=by unfold jcw;rw[h]
def jf0 (acc:List Tk) (o:Option (List Tk)):Option (List Tk):=match o with | none=>none | some v=>some (acc++v)
theorem jc4 (o:Option (List Tk)):jf0 [] o=o:=by cases o<;>rfl
theorem jci (acc t:List Tk) (o:Option (List Tk)):jf0 acc (jc9 (some t) o)=jf0 (acc++t) o:=by
  cases o with
  | none=>rfl
  | some v=>show some (acc++(t++v))=some (acc++t++v);rw[List.append_assoc]
theorem jgd (acc:List Tk) (o:Option (List Tk)):jf0 acc (jc9 (gd true) o)=jf0 acc o:=by
  show jf0 acc (jc9 (some []) o)=_;rw[jci,List.append_nil]
theorem jej {p:Prop} [Decidable p] (o:Option (List Tk)):jc9 (gd (decide p)) o=if p then o else none:=by
  by_cases h:p
  · rw[if_pos h,decide_eq_true h];show jc9 (some []) o=o;cases o<;>rfl
  · rw[if_neg h,decide_eq_false h];try rfl
theorem jgo {p:Prop} [Decidable p]:gd (decide p)=if p then some [] else none:=by
  by_cases h:p
  · rw[if_pos h,decide_eq_true h];try rfl
  · rw[if_neg h,decide_eq_false h];try rfl
theorem jdk (w:Wh):∀l:List Nd,shL l w=shG (fun n=>shO n w) l
  | []=>by rw[shL,shG]
  | n :: l=>by rw[shL,shG,jdk w l]
theorem jik (n:Nd) (w:Wh) (least:Nat) (most:Option Nat):shO n (.lst w least most)=lstO (fun n=>shO n w) n least most:=by
  obtain ⟨k,x,a,e,l⟩:=n
  conv=>lhs;unfold shO
  unfold lstO jeh;dsimp only;rw[jdk];show (if k=24∧x=[]∧least≤l.length∧jmk most l.length=true then _ else none)=if k=24∧x=[] then _ else none;by_cases h1:k=24∧x=[]
  · rw[if_pos h1];by_cases h2:least≤l.length∧jmk most l.length=true
    · rw[if_pos ⟨h1.1,h1.2,h2⟩];exact (if_pos h2).symm
    · rw[if_neg (fun h=>h2 h.2.2)];exact (if_neg h2).symm
  · rw[if_neg h1,if_neg (fun h=>h1 ⟨h.1,h.2.1⟩)]
theorem jhe {a b:Option (List Tk)} {ts:List Tk} (h:jc9 a b=some ts):∃u v,a=some u∧b=some v∧ts=u++v:=by
  cases a with
  | none=>cases h
  | some u =>
    cases b with
    | none=>cases h
    | some v=>cases h;exact ⟨u,v,rfl,rfl,rfl⟩
theorem jn9 (x:List UInt8):(jja x).length≤2:=by
  unfold jja;dsimp only;split<;>simp
set_option maxHeartbeats 6400000
mutual
theorem jbn:∀(n:Nd) (w:Wh) (ts:List Tk),shO n w=some ts→ts.length≤2*sizeN n
  | .mk k x a e l,w,ts,h=>by
    have hL:=fun w ts=>shL_len l w ts
    have hW:=fun ws ts=>shW_len l ws ts
    have hA:∀(u:List Tk) (o:Option (List Tk)) (ts:List Tk),u.length≤2→(∀v,o=some v→v.length≤2*ja8 l)→jc9 (some u) o=some ts→ts.length≤2*(ja8 l+1):=by
      intro u o ts hu ho h;obtain ⟨u',v,h1,h2,rfl⟩:=jhe h;cases h1;rw[List.length_append];have:=ho v h2;omega
    have hS:∀(u:List Tk) (ts:List Tk),u.length≤2→some u=some ts→ts.length≤2*(ja8 l+1):=by
      intro u ts hu h;cases h;omega
    have hB:∀(o:Option (List Tk)) (ts:List Tk),(∀v,o=some v→v.length≤2*ja8 l)→o=some ts→ts.length≤2*(ja8 l+1):=by
      intro o ts ho h;have:=ho ts h;omega
    (have h1:∀(k:Int) (x:List UInt8),[tk1 k x].length≤2:=fun k x=>by simp);have ht:=jn9 x;rw[sizeN]
    cases w<;>unfold shO at h<;>dsimp only at h<;>(repeat' split at h)<;>first
      | (cases h;done)
      | exact hA _ _ _ (h1 _ _) (hW _) h
      | exact hA _ _ _ ht (hL _) h
      | exact hS _ _ (h1 _ _) h
      | exact hS _ _ ht h
      | exact hS _ _ (Nat.zero_le _) h
      | exact hB _ _ (hL _) h
      | exact hB _ _ (hW _) h
theorem shL_len:∀(l:List Nd) (w:Wh) (ts:List Tk),shL l w=some ts→ts.length≤2*ja8 l
  | [],w,ts,h=>by rw[shL] at h;cases h;simp
  | n :: l,w,ts,h=>by
    rw[shL] at h;obtain ⟨u,v,h1,h2,rfl⟩:=jhe h;have:=jbn n w u h1;have:=shL_len l w v h2;rw[List.length_append,ja8];omega
theorem shW_len:∀(l:List Nd) (ws:List Wh) (ts:List Tk),shW l ws=some ts→ts.length≤2*ja8 l
  | [],[],ts,h=>by rw[shW] at h;cases h;simp
  | [],w :: ws,ts,h=>by simp[shW] at h
  | n :: l,[],ts,h=>by simp[shW] at h
  | n :: l,w :: ws,ts,h=>by
    rw[shW] at h;obtain ⟨u,v,h1,h2,rfl⟩:=jhe h;have:=jbn n w u h1;have:=shW_len l ws v h2;rw[List.length_append,ja8];omega
end
theorem jgp (b:Bool) (o:Option (List Tk)):jc9 (gd b) o=if b=true then o else none:=by cases b<;>cases o<;>rfl
theorem jd9 {p q:Prop} [Decidable p] [Decidable q] (a:Option (List Tk)):(if p∧q then a else none)=if p then (if q then a else none) else none:=by
  by_cases hp:p<;>by_cases hq:q<;>simp[hp,hq]
theorem jgw (b:Bool):gd b=if b=true then some [] else none:=rfl
theorem jd0 (o:Option (List Tk)):jc9 o (some [])=o:=by cases o with | none=>rfl | some v=>show some (v++[])=_;rw[List.append_nil]
theorem jd2 (o:Option (List Tk)):jc9 (some []) o=o:=by cases o<;>rfl
theorem jcm (o:Option (List Tk)):jc9 none o=none:=rfl
theorem jnw (o:Option (List Tk)):jc9 o none=none:=by cases o<;>rfl
theorem jek {p:Prop} [Decidable p] (a o:Option (List Tk)):jc9 (if p then a else none) o=if p then jc9 a o else none:=by split<;>rfl
theorem jdb {p:Prop} [Decidable p] (a o:Option (List Tk)):jc9 o (if p then a else none)=if p then jc9 o a else none:=by split<;>simp[jnw]
theorem jma (l:List Nd) (w:Wh):shW l [w]=if l.length=1 then jcw l 0 w else none:=by
  rcases l with _ | ⟨n,_ | ⟨q,l⟩⟩<;>simp[shW,jcw,jd0,jnw]
theorem jm9 (l:List Nd) (w w':Wh):shW l [w,w']=if l.length=2 then jc9 (jcw l 0 w) (jcw l 1 w') else none:=by
  rcases l with _ | ⟨n,_ | ⟨q,_ | ⟨r,l⟩⟩⟩<;>simp[shW,jcw,jd0,jnw]
theorem jm8 (l:List Nd) (w w' w2:Wh):shW l [w,w',w2]=if l.length=3 then jc9 (jcw l 0 w) (jc9 (jcw l 1 w') (jcw l 2 w2)) else none:=by
  rcases l with _ | ⟨n,_ | ⟨q,_ | ⟨r,_ | ⟨s,l⟩⟩⟩⟩<;>simp[shW,jcw,jd0,jnw]
theorem jgn (f:Nd→Option (List Tk)) (l:List Nd) (n:Nat):jeh f l n (some n)=if l.length=n then shG f l else none:=by
  unfold jeh jmk;by_cases h:l.length=n
  · rw[if_pos h,if_pos ⟨by omega,decide_eq_true (by omega)⟩]
  · rw[if_neg h,if_neg (fun q=>h (by have:=q.1;have:=of_decide_eq_true q.2;omega))]
theorem jgf (f:Nd→Option (List Tk)) (l:List Nd) (n:Nat):jeh f l n none=if n≤l.length then shG f l else none:=by
  unfold jeh jmk;simp
theorem jei (f:Nd→Option (List Tk)) (l:List Nd) (n:Nat):jeh f l 0 (some n)=if l.length≤n then shG f l else none:=by
  unfold jeh jmk;simp
theorem hx_15 (a e:Int) (x:List UInt8) (l:List Nd):shO (.mk 15 x a e l) .expr=lfO 1 x l:=by
  conv=>lhs;unfold shO
  simp[jma,jm9,jm8,jdk,nmO,lfO,jgp,jgo,jej,jgn,jgf,jei,jek,jdb,jd2,jcm,jd0,jd9];(try (simp only[jgw];done));try ((repeat' split)<;>simp_all [jgw])
theorem hx_16 (a e:Int) (x:List UInt8) (l:List Nd):shO (.mk 16 x a e l) .expr=lfO 3 x l:=by
  conv=>lhs;unfold shO
  simp[jma,jm9,jm8,jdk,nmO,lfO,jgp,jgo,jej,jgn,jgf,jei,jek,jdb,jd2,jcm,jd0,jd9];(try (simp only[jgw];done));try ((repeat' split)<;>simp_all [jgw])
theorem hx_17 (a e:Int) (x:List UInt8) (l:List Nd):shO (.mk 17 x a e l) .expr=lfO 4 x l:=by
  conv=>lhs;unfold shO
  simp[jma,jm9,jm8,jdk,nmO,lfO,jgp,jgo,jej,jgn,jgf,jei,jek,jdb,jd2,jcm,jd0,jd9];(try (simp only[jgw];done));try ((repeat' split)<;>simp_all [jgw])
theorem hx_18 (a e:Int) (x:List UInt8) (l:List Nd):shO (.mk 18 x a e l) .expr=jc9 (gd (jdu x)) (gd (decide (l.length=0))):=by
  conv=>lhs;unfold shO
  simp[jma,jm9,jm8,jdk,nmO,lfO,jgp,jgo,jej,jgn,jgf,jei,jek,jdb,jd2,jcm,jd0,jd9];(try (simp only[jgw];done));try ((repeat' split)<;>simp_all [jgw])
theorem hx_19 (a e:Int) (x:List UInt8) (l:List Nd):shO (.mk 19 x a e l) .expr=jc9 (nmO x l 1) (jcw l 0 .expr):=by
  conv=>lhs;unfold shO
  simp[jma,jm9,jm8,jdk,nmO,lfO,jgp,jgo,jej,jgn,jgf,jei,jek,jdb,jd2,jcm,jd0,jd9];(try (simp only[jgw];done));try ((repeat' split)<;>simp_all [jgw])
theorem hx_20 (a e:Int) (x:List UInt8) (l:List Nd):shO (.mk 20 x a e l) .expr=jc9 (gd (decide (x=[]))) (jeh (fun n=>shO n .expr) l 1 none):=by
  conv=>lhs;unfold shO
  simp[jma,jm9,jm8,jdk,nmO,lfO,jgp,jgo,jej,jgn,jgf,jei,jek,jdb,jd2,jcm,jd0,jd9];(try (simp only[jgw];done));try ((repeat' split)<;>simp_all [jgw])
theorem hx_21 (a e:Int) (x:List UInt8) (l:List Nd):shO (.mk 21 x a e l) .expr=jc9 (some (jja x)) (jeh (fun n=>shO n .expr) l 0 none):=by
  conv=>lhs;unfold shO
  simp[jma,jm9,jm8,jdk,nmO,lfO,jgp,jgo,jej,jgn,jgf,jei,jek,jdb,jd2,jcm,jd0,jd9];(try (simp only[jgw];done));try ((repeat' split)<;>simp_all [jgw])
theorem hx_22 (a e:Int) (x:List UInt8) (l:List Nd):shO (.mk 22 x a e l) .expr=jc9 (gd (decide (x=[33]∨x=[45]))) (jeh (fun n=>shO n .expr) l 1 (some 1)):=by
  conv=>lhs;unfold shO
  simp[jma,jm9,jm8,jdk,nmO,lfO,jgp,jgo,jej,jgn,jgf,jei,jek,jdb,jd2,jcm,jd0,jd9];(try (simp only[jgw];done));try ((repeat' split)<;>simp_all [jgw])
theorem hx_23 (a e:Int) (x:List UInt8) (l:List Nd):shO (.mk 23 x a e l) .expr=jc9 (gd (opOk x)) (jeh (fun n=>shO n .expr) l 2 (some 2)):=by
  conv=>lhs;unfold shO
  simp[jma,jm9,jm8,jdk,nmO,lfO,jgp,jgo,jej,jgn,jgf,jei,jek,jdb,jd2,jcm,jd0,jd9];(try (simp only[jgw];done));try ((repeat' split)<;>simp_all [jgw])
theorem hd_8_6 (a e:Int) (x:List UInt8) (l:List Nd):shO (.mk 6 x a e l) .member=jc9 (nmO x l 2) (jc9 (jcw l 0 .typ) (jcw l 1 (.lst .expr 0 (some 1)))):=by
  conv=>lhs;unfold shO
  simp[jma,jm9,jm8,jdk,nmO,lfO,jgp,jgo,jej,jgn,jgf,jei,jek,jdb,jd2,jcm,jd0,jd9];(try (simp only[jgw];done));try ((repeat' split)<;>simp_all [jgw])
theorem hd_8_5 (a e:Int) (x:List UInt8) (l:List Nd):shO (.mk 5 x a e l) .member=jc9 (nmO x l 3) (jc9 (jcw l 0 (.lst .param 0 none)) (jc9 (jcw l 1 (.lst .typ 0 (some 1))) (jcw l 2 (.lst .block 1 (some 1))))):=by
  conv=>lhs;unfold shO
  simp[jma,jm9,jm8,jdk,nmO,lfO,jgp,jgo,jej,jgn,jgf,jei,jek,jdb,jd2,jcm,jd0,jd9];(try (simp only[jgw];done));try ((repeat' split)<;>simp_all [jgw])
theorem hd_7_3 (a e:Int) (x:List UInt8) (l:List Nd):shO (.mk 3 x a e l) .decl=jc9 (nmO x l 3) (jc9 (jcw l 0 (.lst .typ 0 (some 1))) (jc9 (jcw l 1 (.lst .types 0 none)) (jcw l 2 (.lst .member 0 none)))):=by
  conv=>lhs;unfold shO
  simp[jma,jm9,jm8,jdk,nmO,lfO,jgp,jgo,jej,jgn,jgf,jei,jek,jdb,jd2,jcm,jd0,jd9];(try (simp only[jgw];done));try ((repeat' split)<;>simp_all [jgw])
theorem hd_7_4 (a e:Int) (x:List UInt8) (l:List Nd):shO (.mk 4 x a e l) .decl=jc9 (nmO x l 2) (jc9 (jcw l 0 (.lst .types 0 none)) (jcw l 1 (.lst .sig 0 none))):=by
  conv=>lhs;unfold shO
  simp[jma,jm9,jm8,jdk,nmO,lfO,jgp,jgo,jej,jgn,jgf,jei,jek,jdb,jd2,jcm,jd0,jd9];(try (simp only[jgw];done));try ((repeat' split)<;>simp_all [jgw])
theorem hd_9_5 (a e:Int) (x:List UInt8) (l:List Nd):shO (.mk 5 x a e l) .sig=jc9 (nmO x l 3) (jc9 (jcw l 0 (.lst .param 0 none)) (jc9 (jcw l 1 (.lst .typ 0 (some 1))) (jcw l 2 (.lst .block 0 (some 0))))):=by
  conv=>lhs;unfold shO
  simp[jma,jm9,jm8,jdk,nmO,lfO,jgp,jgo,jej,jgn,jgf,jei,jek,jdb,jd2,jcm,jd0,jd9];(try (simp only[jgw];done));try ((repeat' split)<;>simp_all [jgw])
theorem hs_9 (a e:Int) (x:List UInt8) (l:List Nd):shO (.mk 9 x a e l) .stmt=jc9 (gd (decide (x=[]))) (jeh (fun n=>shO n .stmt) l 0 none):=by
  conv=>lhs;unfold shO
  simp[jma,jm9,jm8,jdk,nmO,lfO,jgp,jgo,jej,jgn,jgf,jei,jek,jdb,jd2,jcm,jd0,jd9];(try (simp only[jgw];done));try ((repeat' split)<;>simp_all [jgw])
theorem hs_10 (a e:Int) (x:List UInt8) (l:List Nd):shO (.mk 10 x a e l) .stmt=jc9 (gd (decide (x=[]))) (jeh (fun n=>shO n .expr) l 0 (some 1)):=by
  conv=>lhs;unfold shO
  simp[jma,jm9,jm8,jdk,nmO,lfO,jgp,jgo,jej,jgn,jgf,jei,jek,jdb,jd2,jcm,jd0,jd9];(try (simp only[jgw];done));try ((repeat' split)<;>simp_all [jgw])
theorem hs_11 (a e:Int) (x:List UInt8) (l:List Nd):shO (.mk 11 x a e l) .stmt=jc9 (gd (decide (x=[]∧l.length=3))) (jc9 (jcw l 0 .expr) (jc9 (jcw l 1 .block) (jcw l 2 (.lst .block 0 (some 1))))):=by
  conv=>lhs;unfold shO
  simp[jma,jm9,jm8,jdk,nmO,lfO,jgp,jgo,jej,jgn,jgf,jei,jek,jdb,jd2,jcm,jd0,jd9];(try (simp only[jgw];done));try ((repeat' split)<;>simp_all [jgw])
theorem hs_12 (a e:Int) (x:List UInt8) (l:List Nd):shO (.mk 12 x a e l) .stmt=jc9 (gd (decide (x=[]∧l.length=2))) (jc9 (jcw l 0 .expr) (jcw l 1 .block)):=by
  conv=>lhs;unfold shO
  simp[jma,jm9,jm8,jdk,nmO,lfO,jgp,jgo,jej,jgn,jgf,jei,jek,jdb,jd2,jcm,jd0,jd9];(try (simp only[jgw];done));try ((repeat' split)<;>simp_all [jgw])
theorem hs_13 (a e:Int) (x:List UInt8) (l:List Nd):shO (.mk 13 x a e l) .stmt=jc9 (gd (decide (x=[]∧l.length=2))) (jc9 (jcw l 0 .expr) (jcw l 1 .expr)):=by
  conv=>lhs;unfold shO
  simp[jma,jm9,jm8,jdk,nmO,lfO,jgp,jgo,jej,jgn,jgf,jei,jek,jdb,jd2,jcm,jd0,jd9];(try (simp only[jgw];done));try ((repeat' split)<;>simp_all [jgw])
theorem hs_14 (a e:Int) (x:List UInt8) (l:List Nd):shO (.mk 14 x a e l) .stmt=jc9 (gd (decide (x=[]∧l.length=1))) (jcw l 0 .expr):=by
  conv=>lhs;unfold shO
  simp[jma,jm9,jm8,jdk,nmO,lfO,jgp,jgo,jej,jgn,jgf,jei,jek,jdb,jd2,jcm,jd0,jd9];(try (simp only[jgw];done));try ((repeat' split)<;>simp_all [jgw])
theorem hs_6 (a e:Int) (x:List UInt8) (l:List Nd):shO (.mk 6 x a e l) .stmt=jc9 (nmO x l 2) (jc9 (jcw l 0 .typ) (jcw l 1 (.lst .expr 0 (some 1)))):=by
  conv=>lhs;unfold shO
  simp[jma,jm9,jm8,jdk,nmO,lfO,jgp,jgo,jej,jgn,jgf,jei,jek,jdb,jd2,jcm,jd0,jd9];(try (simp only[jgw];done));try ((repeat' split)<;>simp_all [jgw])
theorem hf_block (k:Int) (a e:Int) (x:List UInt8) (l:List Nd):shO (.mk k x a e l) .block=jc9 (gd (decide (k=9))) (jc9 (gd (decide (x=[]))) (jeh (fun n=>shO n .stmt) l 0 none)):=by
  conv=>lhs;unfold shO
  simp[jma,jm9,jm8,jdk,nmO,lfO,jgp,jgo,jej,jgn,jgf,jei,jek,jdb,jd2,jcm,jd0,jd9];(try (simp only[jgw];done));try ((repeat' split)<;>simp_all [jgw])
theorem hf_param (k:Int) (a e:Int) (x:List UInt8) (l:List Nd):shO (.mk k x a e l) .param=jc9 (gd (decide (k=7))) (jc9 (nmO x l 1) (jcw l 0 .typ)):=by
  conv=>lhs;unfold shO
  simp[jma,jm9,jm8,jdk,nmO,lfO,jgp,jgo,jej,jgn,jgf,jei,jek,jdb,jd2,jcm,jd0,jd9];(try (simp only[jgw];done));try ((repeat' split)<;>simp_all [jgw])
theorem hf_typ (k:Int) (a e:Int) (x:List UInt8) (l:List Nd):shO (.mk k x a e l) .typ=jc9 (some (jja x)) (jc9 (gd (decide (k=8))) (gd (decide (l.length=0)))):=by
  conv=>lhs;unfold shO
  simp[jma,jm9,jm8,jdk,nmO,lfO,jgp,jgo,jej,jgn,jgf,jei,jek,jdb,jd2,jcm,jd0,jd9];(try (simp only[jgw];done));try ((repeat' split)<;>simp_all [jgw])
theorem hf_types (k:Int) (a e:Int) (x:List UInt8) (l:List Nd):shO (.mk k x a e l) .types=jc9 (some (jja x)) (jc9 (gd (decide (k=8))) (gd (decide (l.length=0)))):=by
  conv=>lhs;unfold shO
  simp[jma,jm9,jm8,jdk,nmO,lfO,jgp,jgo,jej,jgn,jgf,jei,jek,jdb,jd2,jcm,jd0,jd9];(try (simp only[jgw];done));try ((repeat' split)<;>simp_all [jgw])
end
section
open Go.RowKit
open Go.ChangeShapes (block_add)
theorem blk_lt {w:World} {b:Nat} {o:Obj} (h:w.heap[b]?=some o):b<w.heap.size:=by
  rcases Nat.lt_or_ge b w.heap.size with h1 | h1
  · exact h1
  · rw[Array.getElem?_eq_none h1] at h;cases h
structure Bt (p:Nat) (w w':World):Prop where
  os:w'.os=w.os
  tape:w'.tape=w.tape
  output:w'.output=w.output
  size:w.heap.size≤w'.heap.size
  block:∀k,k<w.heap.size→k≠p→w'.heap[k]?=w.heap[k]?
section
variable {p:Nat} {w w' a b c:World}
theorem Bt.refl (p:Nat) (w:World):Bt p w w:=⟨rfl,rfl,rfl,Nat.le_refl _,fun _ _ _=>rfl⟩
theorem Bt.trans (h:Bt p a b) (k:Bt p b c):Bt p a c :=
  ⟨k.os.trans h.os,k.tape.trans h.tape,k.output.trans h.output,Nat.le_trans h.size k.size,fun i hi hp=>(k.block i (Nat.lt_of_lt_of_le hi h.size) hp).trans (h.block i hi hp)⟩
theorem Bt.of (h:Below w.heap.size w w') (p:Nat):Bt p w w':=⟨h.os,h.tape,h.output,h.size,fun k hk _=>h.block k hk⟩
theorem Bt.up (h:Bt p w w') {B:Nat} (hB:B≤p) (hp:p≤w.heap.size):Below B w w':=⟨h.os,h.tape,h.output,h.size,fun k hk=>h.block k (by omega) (by omega)⟩
theorem Bt.set (w:World) (p o:Nat) (u:Value):Bt p w (w.setCell ⟨p,o,none⟩ u):=⟨rfl,rfl,rfl,by simp[World.setCell],fun k _ hk=>Below.heap_setCell w ⟨p,o,none⟩ u k hk⟩
theorem Bt.cell (h:Bt p w w') {q:Addr} (hq:q.block<w.heap.size) (hne:q.block≠p):w'.cell? q=w.cell? q:=World.cell?_of_block (w:=w) (h.block q.block hq hne)
theorem Bt.frozen (h:Bt p w w') {q:Addr} (hq:q.block<w.heap.size) (hne:q.block≠p):w'.frozen? q=w.frozen? q:=World.frozen?_of_block (w:=w) (h.block q.block hq hne)
theorem Bt.drawn (h:Drawn w w') (p:Nat):Bt p w w':=Bt.of (h.below _) p
theorem Bt.then_below {B:Nat} (h:Bt p a b) (k:Below B b c) (hB:a.heap.size≤B):Bt p a c :=
  ⟨k.os.trans h.os,k.tape.trans h.tape,k.output.trans h.output,Nat.le_trans h.size k.size,fun i hi hp=>(k.block i (by omega)).trans (h.block i hi hp)⟩
theorem Bt.more (h:Bt p a b) (o:Obj):Bt p a (b.alloc o):=h.then_below (jak (Below.refl _ b) o) h.size
theorem Bt.drew (h:Bt p a b) (m:Nat):Bt p a (b.drewN m):=h.trans (Bt.drawn ⟨m,rfl⟩ p)
theorem owns_bt {B e:Nat} {sz n:Nat} {v:Value} {xs:List Value} (h:w.ownsRow B e sz v n xs) (hb:Bt p w w') (hp:p<B):w'.ownsRow B e sz v n xs:=by
  obtain ⟨h1,h2⟩:=h;refine ⟨h1,?_⟩;rcases h2 with h2 | ⟨g,cap,cur,hv,hB,hh,r⟩
  · exact Or.inl h2
  · exact Or.inr ⟨g,cap,cur,hv,hB,(hb.block g (blk_lt hh) (by omega)).trans hh,r⟩
theorem NdV.bt {ok:Nat→Prop} {v:Value} {r:Nd} (h:NdV w ok v r) (hb:Bt p w w') (hok:∀g,ok g→g≠p):NdV w' ok v r:=h.map (fun _ hq hlt=>hb.cell hlt (hok _ hq)) fun _ h _=>h
theorem NdV.btB {B:Nat} {v:Value} {r:Nd} (h:NdV w (fun g=>B≤g) v r) (hb:Bt p w w') (hp:p<B):NdV w' (fun g=>B≤g) v r:=h.bt hb fun g hg=>by omega
theorem NdV.wide {B B':Nat} {v:Value} {r:Nd} (h:NdV w (fun g=>B≤g) v r) (hB:B'≤B):NdV w (fun g=>B'≤g) v r:=h.map (fun _ _ _=>rfl) fun g hg _=>Nat.le_trans hB hg
theorem OwnN.bt {B:Nat} {v:Value} {xs:List Nd} (h:OwnN w B v xs) (hb:Bt p w w') (hp:p<B):OwnN w' B v xs:=by
  obtain ⟨cs,vs,h1,h2,h3,h4⟩:=h;exact ⟨cs,vs,owns_bt h1 hb hp,h2,h3,fun i u x hu hx=>(h4 i u x hu hx).bt hb fun g hg=>by omega⟩
end
def FiveF (w:World) (b:Nat) (c0 c1 c2 c3 c4:Value):Prop:=FiveN w b c0 c1 c2 c3 c4∧w.frozen? ⟨b,0,none⟩=false∧w.frozen? ⟨b,1,none⟩=false∧w.frozen? ⟨b,2,none⟩=false∧w.frozen? ⟨b,3,none⟩=false∧w.frozen? ⟨b,4,none⟩=false
theorem jae (w:World) (c0 c1 c2 c3 c4:Value) (T:TypeId):FiveF (w.alloc (.cells #[c0,c1,c2,c3,c4] T)) w.heap.size c0 c1 c2 c3 c4:=by
  refine ⟨ja6 w c0 c1 c2 c3 c4 T,?_,?_,?_,?_,?_⟩<;>(rw[World.frozen?_alloc_mark];simp)
theorem FiveF.at_ {w w':World} {b B:Nat} {c0 c1 c2 c3 c4:Value} (h:FiveF w b c0 c1 c2 c3 c4) (hb:Below B w w') (hlt:b<B):FiveF w' b c0 c1 c2 c3 c4:=by
  obtain ⟨⟨h0,h1,h2,h3,h4,h5⟩,f0,f1,f2,f3,f4⟩:=h;have key:∀k:Nat,w'.cell? ⟨b,k,none⟩=w.cell? ⟨b,k,none⟩:=fun k=>hb.cell (p:=⟨b,k,none⟩) hlt;have fkey:∀k:Nat,w'.frozen? ⟨b,k,none⟩=w.frozen? ⟨b,k,none⟩:=fun k=>hb.frozen (p:=⟨b,k,none⟩) hlt;exact ⟨⟨Nat.lt_of_lt_of_le h0 hb.size,(key _).trans h1,(key _).trans h2,(key _).trans h3,(key _).trans h4,(key _).trans h5⟩,(fkey _).trans f0,(fkey _).trans f1,(fkey _).trans f2,(fkey _).trans f3,(fkey _).trans f4⟩
theorem FiveF.keep {w w':World} {b:Nat} {c0 c1 c2 c3 c4:Value} (h:FiveF w b c0 c1 c2 c3 c4) (hb:Below w.heap.size w w'):FiveF w' b c0 c1 c2 c3 c4:=h.at_ hb h.1.1
theorem FiveF.bt {p b:Nat} {w w':World} {c0 c1 c2 c3 c4:Value} (h:FiveF w b c0 c1 c2 c3 c4) (hb:Bt p w w') (hne:b≠p):FiveF w' b c0 c1 c2 c3 c4:=by
  obtain ⟨⟨h0,h1,h2,h3,h4,h5⟩,f0,f1,f2,f3,f4⟩:=h;have key:∀k:Nat,w'.cell? ⟨b,k,none⟩=w.cell? ⟨b,k,none⟩:=fun k=>hb.cell (q:=⟨b,k,none⟩) h0 hne;have fkey:∀k:Nat,w'.frozen? ⟨b,k,none⟩=w.frozen? ⟨b,k,none⟩:=fun k=>hb.frozen (q:=⟨b,k,none⟩) h0 hne;exact ⟨⟨Nat.lt_of_lt_of_le h0 hb.size,(key _).trans h1,(key _).trans h2,(key _).trans h3,(key _).trans h4,(key _).trans h5⟩,(fkey _).trans f0,(fkey _).trans f1,(fkey _).trans f2,(fkey _).trans f3,(fkey _).trans f4⟩
def jex (w:World) (b:Nat) (u0 u1 u2 u3 u4:Value):World:=((((w.setCell ⟨b,0,none⟩ u0).setCell ⟨b,1,none⟩ u1).setCell ⟨b,2,none⟩ u2).setCell ⟨b,3,none⟩ u3).setCell ⟨b,4,none⟩ u4
theorem jbh (w:World) (b j k:Nat) (u:Value) (h:j≠k):(w.setCell ⟨b,j,none⟩ u).cell? ⟨b,k,none⟩=w.cell? ⟨b,k,none⟩:=World.cell?_setCell_other _ _ _ _ (fun e=>h (congrArg Addr.off e))
theorem ja3 {w:World} {b:Nat} {c0 c1 c2 c3 c4:Value} (h:FiveF w b c0 c1 c2 c3 c4) (u0 u1 u2 u3 u4:Value):FiveN (jex w b u0 u1 u2 u3 u4) b u0 u1 u2 u3 u4:=by
  obtain ⟨⟨h0,h1,h2,h3,h4,h5⟩,_⟩:=h;unfold jex;refine ⟨by simpa [World.setCell] using h0,?_,?_,?_,?_,?_⟩
  · rw[jbh _ _ _ _ _ (by decide),jbh _ _ _ _ _ (by decide),jbh _ _ _ _ _ (by decide),jbh _ _ _ _ _ (by decide)];exact World.cell?_setCell_same _ _ _ h1
  · rw[jbh _ _ _ _ _ (by decide),jbh _ _ _ _ _ (by decide),jbh _ _ _ _ _ (by decide)];exact World.cell?_setCell_same _ _ _ (by rw[jbh _ _ _ _ _ (by decide)];exact h2)
  · rw[jbh _ _ _ _ _ (by decide),jbh _ _ _ _ _ (by decide)];exact World.cell?_setCell_same _ _ _ (by rw[jbh _ _ _ _ _ (by decide),jbh _ _ _ _ _ (by decide)];exact h3)
  · rw[jbh _ _ _ _ _ (by decide)];exact World.cell?_setCell_same _ _ _ (by rw[jbh _ _ _ _ _ (by decide),jbh _ _ _ _ _ (by decide),jbh _ _ _ _ _ (by decide)];exact h4)
  · exact World.cell?_setCell_same _ _ _ (by rw[jbh _ _ _ _ _ (by decide),jbh _ _ _ _ _ (by decide),jbh _ _ _ _ _ (by decide),jbh _ _ _ _ _ (by decide)];exact h5)
theorem jaj {B b:Nat} {w w':World} {u0 u1 u2 u3 u4:Value} (h:Below B w w') (hb:B≤b):Below B w (jex w' b u0 u1 u2 u3 u4) :=
  ((((h.setCell (by exact hb) _).setCell (by exact hb) _).setCell (by exact hb) _).setCell (by exact hb) _).setCell (by exact hb) _
theorem jd1 {w:World} {b:Nat} {u0 u1 u2 u3 u4:Value} {p:Addr} (h:p.block≠b):(jex w b u0 u1 u2 u3 u4).cell? p=w.cell? p:=by
  unfold jex;have key:∀(W:World) (j:Nat) (u:Value),(W.setCell ⟨b,j,none⟩ u).cell? p=W.cell? p:=fun W j u=>World.cell?_setCell_other _ _ _ _ (fun e=>h (congrArg Addr.block e).symm);rw[key,key,key,key,key]
theorem jj1 {p b:Nat} {w w':World} {u0 u1 u2 u3 u4:Value} (h:Bt p w w') (hb:w.heap.size≤b):Bt p w (jex w' b u0 u1 u2 u3 u4) :=
  h.then_below (jaj (Below.refl w.heap.size w') hb) (Nat.le_refl _)
theorem jnf {w:World} {b B:Nat} {u0 u1 u2 u3 u4 v:Value} {r:Nd} (h:NdV w (fun g=>B≤g) v r) (hb:b<B) (B':Nat) (hB:B'≤B):NdV (jex w b u0 u1 u2 u3 u4) (fun g=>B'≤g) v r :=
  h.map (fun p hp _=>jd1 (by omega)) fun g hg _=>Nat.le_trans hB hg
theorem jil {W:World} {b:Nat} {c0 c1 c2 c3 c4:Value} (h:FiveN W b c0 c1 c2 c3 c4):(loadVar 25 ⟨b,0,none⟩).run Tryz.prog W=.ok (.agg #[c0,c1,c2,c3,c4]) W:=by
  obtain ⟨h0,h1,h2,h3,h4,h5⟩:=h;go_simp
theorem jag {fn:Func} {p:Tmp} (h:fn.results=#[.cell p 25]) (tmps:Array Value) (W:World) (b:Nat) (c0 c1 c2 c3 c4:Value) (hp:tmps.getD p undef=.pointer (some ⟨b,0,none⟩)) (hf:FiveN W b c0 c1 c2 c3 c4) :
    (results fn tmps).run Tryz.prog W=.ok (.agg #[c0,c1,c2,c3,c4]) W:=by
  (have hp':tmps[p]?.getD undef=.pointer (some ⟨b,0,none⟩):=by simpa using hp);simp[results,h,hp',asAddr,jil hf]
def TkP (W:World) (p:Nat) (A:Option Addr) (n c:Nat) (l:List Tk):Prop :=
  n≤c∧c≤9223372036854775807∧l.length=n∧∀i t,l[i]?=some t→∃g o,A=some ⟨g,o,none⟩∧g<p∧W.cell? ⟨g,o+i*4,none⟩=some (.int .i64 t.kind)∧W.cell? ⟨g,o+i*4+1,none⟩=some (.string (bs t.text)) ∧
    W.cell? ⟨g,o+i*4+2,none⟩=some (.int .i64 t.at_)∧W.cell? ⟨g,o+i*4+3,none⟩=some (.int .i64 t.en)
theorem TkS.p {W:World} {A:Option Addr} {n c:Nat} {l:List Tk} (h:TkS W A n c l):TkP W W.heap.size A n c l:=by
  refine ⟨h.1,h.2.1,h.2.2.1,fun i t ht=>?_⟩;obtain ⟨g,o,hA,h0,h1⟩:=h.2.2.2 i t ht;exact ⟨g,o,hA,World.block_lt_of_cell? _ _ h0,h0,h1⟩
theorem TkP.below {W W':World} {p:Nat} {A:Option Addr} {n c:Nat} {l:List Tk} (h:TkP W p A n c l) (hb:Below p W W'):TkP W' p A n c l:=by
  refine ⟨h.1,h.2.1,h.2.2.1,fun i t ht=>?_⟩;obtain ⟨g,o,hA,hg,h0,h1,h2,h3⟩:=h.2.2.2 i t ht;have key:∀k,W'.cell? ⟨g,k,none⟩=W.cell? ⟨g,k,none⟩:=fun k=>hb.cell (p:=⟨g,k,none⟩) hg;exact ⟨g,o,hA,hg,(key _).trans h0,(key _).trans h1,(key _).trans h2,(key _).trans h3⟩
theorem TkP.at_ {W:World} {p:Nat} {A:Option Addr} {n c:Nat} {l:List Tk} (h:TkP W p A n c l) {k:Nat} (hk:k<n) :
    ∃g o t,A=some ⟨g,o,none⟩∧l[k]?=some t∧W.cell? ⟨g,o+k*4,none⟩=some (.int .i64 t.kind)∧W.cell? ⟨g,o+k*4+1,none⟩=some (.string (bs t.text)) ∧
    W.cell? ⟨g,o+k*4+2,none⟩=some (.int .i64 t.at_)∧W.cell? ⟨g,o+k*4+3,none⟩=some (.int .i64 t.en):=by
  (have hl:k<l.length:=by rw[h.2.2.1];exact hk);obtain ⟨g,o,hA,_,h0⟩:=h.2.2.2 k _ (List.getElem?_eq_getElem hl);exact ⟨g,o,l[k],hA,List.getElem?_eq_getElem hl,h0⟩
def PSt (ty:TypeId) (W:World) (p:Nat) (cs:Array Value) (A:Option Addr) (n c:Nat) (l:List Tk):Prop:=W.heap[p]?=some (.cells cs ty (0,0))∧TkP W p A n c l
section
variable {ty:TypeId} {W W':World} {p:Nat} {cs:Array Value} {A:Option Addr} {n c:Nat} {l:List Tk}
theorem PSt.lt (h:PSt ty W p cs A n c l):p<W.heap.size:=blk_lt h.1
theorem PSt.keep (h:PSt ty W p cs A n c l) (hb:Below W.heap.size W W'):PSt ty W' p cs A n c l:=⟨(hb.block p h.lt).trans h.1,h.2.below (hb.mono (Nat.le_of_lt h.lt))⟩
theorem PSt.at_ {B:Nat} (h:PSt ty W p cs A n c l) (hb:Below B W W') (hB:p<B):PSt ty W' p cs A n c l:=⟨(hb.block p hB).trans h.1,h.2.below (hb.mono (Nat.le_of_lt hB))⟩
theorem PSt.cell (h:PSt ty W p cs A n c l) {k:Nat} {u:Value} (hu:cs[k]?=some u):W.cell? ⟨p,k,none⟩=some u:=by
  unfold World.cell?;rw[h.1];simpa using hu
theorem PSt.free (h:PSt ty W p cs A n c l) (k:Nat):W.frozen? ⟨p,k,none⟩=false:=by
  unfold World.frozen?;rw[h.1];simp
theorem PSt.set (h:PSt ty W p cs A n c l) (k:Nat) (u:Value):PSt ty (W.setCell ⟨p,k,none⟩ u) p (cs.setIfInBounds k u) A n c l:=by
  refine ⟨?_,h.2.below ⟨rfl,rfl,rfl,by simp[World.setCell],fun j hj=>Below.heap_setCell W ⟨p,k,none⟩ u j (by show j≠p;omega)⟩⟩;simp only[World.setCell,Array.getElem?_modify,if_pos,h.1];rfl
theorem PSt.tks (h:PSt ty W p cs A n c l):l.length=n∧n≤c∧c≤9223372036854775807:=⟨h.2.2.2.1,h.2.1,h.2.2.1⟩
end
end
section
open Go.RowKit
abbrev csR (A:Option Addr) (n c:Nat) (len:Int) (s:Ps):Array Value:=#[.slice A n c,.int .i64 (s.i:Int),.int .i64 len,.bool s.bad.isSome,.int .i64 (s.bad.getD 0)]
structure RS (W:World) (p:Nat) (A:Option Addr) (n c:Nat) (len:Int) (T:List Tk) (s:Ps):Prop where
  st:PSt 50 W p (csR A n c len s) A n c T
  ib:s.i≤n
  n6:n≤2000000
  tl:∀(i:Nat) (t:Tk),T[i]?=some t→t.text.length≤100000
theorem out_in {T:List Tk} {i n:Nat} (hn:T.length=n) (h:¬i<n):T[i]?=none:=List.getElem?_eq_none (by omega)
theorem str_beqL (a b:List UInt8):((bs a).toList==(bs b).toList)=(a==b):=by rw[Lib.toList_data,Lib.toList_data,jac,jac]
end
section
open Go.RowKit
def NdS (W:World) (ok:Nat→Prop) (A:Option Addr) (m d:Nat) (l:List Nd):Prop:=∃vs,VsS W ok A m d vs∧l.length=m∧∀(i:Nat) (v:Value) (y:Nd),vs[i]?=some v→l[i]?=some y→NdV W ok v y
section
variable {W W':World} {ok ok':Nat→Prop} {A:Option Addr} {m d:Nat} {l:List Nd}
theorem NdS.map (h:NdS W ok A m d l) (hc:∀(p:Addr),ok p.block→p.block<W.heap.size→W'.cell? p=W.cell? p) (ho:∀g,ok g→g<W.heap.size→ok' g):NdS W' ok' A m d l:=by
  obtain ⟨vs,h1,h2,h3⟩:=h;exact ⟨vs,h1.map hc ho,h2,fun i v y hv hy=>(h3 i v y hv hy).map hc ho⟩
theorem NdS.kept (h:NdS W ok A m d l) (hb:Below W.heap.size W W'):NdS W' ok A m d l:=h.map (fun _ _ hp=>hb.cell hp) fun _ h _=>h
theorem NdS.any (h:NdS W ok A m d l):NdS W (fun _=>True) A m d l:=h.map (fun _ _ _=>rfl) fun _ _ _=>trivial
theorem NdS.nil:NdS W ok none 0 0 []:=⟨[],VsS.nil W ok,rfl,fun i v y hv=>by simp at hv⟩
theorem NdS.node (h:NdS W ok A m d l) (k a e:Int) (x:List UInt8):NdV W ok (.agg #[.int .i64 k,.string (bs x),.int .i64 a,.int .i64 e,.slice A m d]) (.mk k x a e l):=by
  obtain ⟨vs,h1,h2,h3⟩:=h;exact .mk k a e x A m d vs l h1 h2 h3
theorem NdS.len (h:NdS W ok A m d l):l.length=m∧m≤d∧d≤9223372036854775807:=⟨h.choose_spec.2.1,h.choose_spec.1.1,h.choose_spec.1.2.1⟩
theorem NdV.cells {k a e:Value} {x q:Value} {y:Nd} (h:NdV W ok (.agg #[k,x,a,e,q]) y):k=.int .i64 y.kind∧x=.string (bs y.text)∧a=.int .i64 y.at_∧e=.int .i64 y.en∧∃A m d,q=.slice A m d∧NdS W ok A m d y.kids:=by
  cases h with
  | mk k a e x B m d vs l hvs hlen hr=>exact ⟨rfl,rfl,rfl,rfl,B,m,d,rfl,vs,hvs,hlen,hr⟩
theorem NdS.at_ (h:NdS W ok A m d l) {i:Nat} (hi:i<m):∃g o y q r t,A=some ⟨g,o,none⟩∧l[i]?=some y∧NdS W ok q r t y.kids ∧
    W.cell? ⟨g,o+i*5,none⟩=some (.int .i64 y.kind)∧W.cell? ⟨g,o+i*5+1,none⟩=some (.string (bs y.text))∧W.cell? ⟨g,o+i*5+2,none⟩=some (.int .i64 y.at_)∧W.cell? ⟨g,o+i*5+3,none⟩=some (.int .i64 y.en)∧W.cell? ⟨g,o+i*5+4,none⟩=some (.slice q r t):=by
  obtain ⟨vs,h1,h2,h3⟩:=h;obtain ⟨g,o,c0,c1,c2,c3,c4,hA,hv,e0,e1,e2,e3,e4⟩:=h1.at_ hi;obtain ⟨y,hy⟩:∃y,l[i]?=some y:=⟨_,List.getElem?_eq_getElem (by omega)⟩;obtain ⟨rfl,rfl,rfl,rfl,q,r,t,rfl,hk⟩:=(h3 i _ y hv hy).cells;exact ⟨g,o,y,q,r,t,hA,hy,hk,e0,e1,e2,e3,e4⟩
end
theorem OwnN.nds {W:World} {B:Nat} {v:Value} {xs:List Nd} (h:OwnN W B v xs):∃A m d,v=.slice A m d∧NdS W (fun g=>B≤g) A m d xs:=by
  obtain ⟨A,m,d,vs,rfl,hm,h1,h2⟩:=h.s;exact ⟨A,m,d,rfl,vs,h1,hm.symm,h2⟩
theorem cell_2 {W:World} {q:Addr} {v:Value} (h:W.cell? q=some v):∀Y Z,((W.alloc Y).alloc Z).cell? q=some v:=fun Y Z=>by
  have h1:=World.block_lt_of_cell? _ _ h
  rw[World.cell?_alloc_lt _ _ _ (by simp;omega),World.cell?_alloc_lt _ _ _ h1]
  exact h
def GotR (p:Nat) (A:Option Addr) (n c:Nat) (len:Int) (T:List Tk) (w:World) (x:Nd) (s':Ps) (e:Ending) (w':World):Prop :=
  ∃A' m' d',e=.returned (.agg #[.int .i64 x.kind,.string (bs x.text),.int .i64 x.at_,.int .i64 x.en,.slice A' m' d'])∧NdV w' (fun g=>w.heap.size≤g) (.agg #[.int .i64 x.kind,.string (bs x.text),.int .i64 x.at_,.int .i64 x.en,.slice A' m' d']) x∧RS w' p A n c len T s'∧Bt p w w'
end
end Go.Proofs.YtonoklmobocikaaGreatDoor
