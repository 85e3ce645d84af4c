/- Lemmas. -/
import Derived.Test.YtonoklmobocikaaGreatDoorK33
import Derived.Test.YtonoklmobocikaaGreatDoorK37
set_option linter.unusedVariables false
set_option linter.unusedSimpArgs false
set_option maxRecDepth 20000
set_option maxHeartbeats 6400000
namespace Go.Proofs.YtonoklmobocikaaGreatDoor
section
theorem litS_quote (t e:List UInt8) (h:t.all jkq=true):jf2 (jff t++34 :: e)=some (t,(jff t).length+1):=by
  induction t with
  | nil=>exact jno e
  | cons c t ih =>
    simp only[List.all_cons,Bool.and_eq_true] at h;have ih:=ih h.2;have hc:=h.1;show jf2 ((jee c++jff t)++34 :: e)=some (c :: t,(jee c++jff t).length+1);by_cases h1:c=34
    · subst h1;show jf2 (92 :: 34 :: (jff t++34 :: e))=_;rw[jnn _ _ (Or.inl rfl),ih];simp[jee]
    · by_cases h2:c=92
      · subst h2;show jf2 (92 :: 92 :: (jff t++34 :: e))=_;rw[jnn _ _ (Or.inr rfl),ih];simp[jee]
      · by_cases h3:c=10
        · subst h3;show jf2 (92 :: 110 :: (jff t++34 :: e))=_;rw[litS_feed,ih];simp[jee]
        · have hv:visB c=true:=by
            unfold jkq at hc;simpa [h3] using hc
          (have hw:jee c=[c]:=by unfold jee;rw[if_neg h1,if_neg h2,if_neg h3]);rw[hw];show jf2 (c :: (jff t++34 :: e))=_;rw[jmn _ _ h1 h2 hv,ih];simp
end
section
theorem form_kinds {k:Int} {t:List UInt8} (h:jgq k t=true):k=1∨k=2∨k=3∨k=4∨k=5∨k=6∨k=7:=by
  unfold jgq at h;split at h
  · omega
  · split at h
    · omega
    · split at h
      · omega
      · split at h
        · omega
        · split at h
          · omega
          · cases h
theorem int_facts {t:List UInt8} (h:jgq 3 t=true):∃c x,t=c :: x∧dgB c=true∧t.all dgB=true:=by
  rw[form3,Bool.or_eq_true] at h;rcases h with h | h
  · (have:t=[48]:=by simpa using h);subst this;exact ⟨48,[],rfl,by decide,by decide⟩
  · simp only[Bool.and_eq_true,Bool.not_eq_true'] at h
    cases t with
    | nil=>simp at h
    | cons c x =>
      obtain ⟨_,h3⟩:=h;simp only[List.all_cons,Bool.and_eq_true] at h3;exact ⟨c,x,rfl,h3.1,by simp only[List.all_cons,h3.1,h3.2,Bool.and_true]⟩
end
section
theorem jld {k:Int} {t:List UInt8} (h:jb8 k t=true) (e:List UInt8) (he:e=[]∨∃x,e=32 :: x):(∃c x,jhr k t=c :: x)∧Bare (jhr k t++e):=by
  have hf:=(jfy h).1
  have key:∀c x,jhr k t=c :: x→blB c=false→¬c=47→(∃c x,jhr k t=c :: x)∧Bare (jhr k t++e):=by
    intro c x h1 h2 h3;refine ⟨⟨c,x,h1⟩,?_⟩;rw[h1];intro c' x' h4;injection h4 with h4 h5;subst h4;exact ⟨h2,fun h=>h3 h.1⟩
  have lt_bl:∀c:UInt8,ltB c=true→blB c=false∧¬c=47:=by
    intro c hc;refine ⟨?_,fun e=>by subst e;exact absurd hc (by decide)⟩
    cases hb:blB c with
    | false=>rfl
    | true =>
      unfold blB at hb;simp only[Bool.or_eq_true,beq_iff_eq] at hb;rcases hb with (hb | hb) | hb<;>subst hb<;>exact absurd hc (by decide)
  rcases form_kinds hf with rfl | rfl | rfl | rfl | rfl | rfl | rfl
  · rw[form1] at hf;obtain ⟨c,x,rfl,hc,_⟩:=jij hf;exact key c x rfl (lt_bl c hc).1 (lt_bl c hc).2
  · rw[form2] at hf;obtain ⟨_,h2,h3,_⟩:=jlv t (mem_kw hf)
    cases t with
    | nil=>cases h2
    | cons c x=>exact key c x rfl (lt_bl c h3).1 (lt_bl c h3).2
  · obtain ⟨c,x,rfl,hc,_⟩:=int_facts hf
    have:blB c=false∧¬c=47:=by
      refine ⟨?_,fun e=>by subst e;exact absurd hc (by decide)⟩
      cases hb:blB c with
      | false=>rfl
      | true =>
        unfold blB at hb;simp only[Bool.or_eq_true,beq_iff_eq] at hb;rcases hb with (hb | hb) | hb<;>subst hb<;>exact absurd hc (by decide)
    exact key c x rfl this.1 this.2
  · exact key 34 (jff t++[34]) rfl (by decide) (by decide)
  · rw[form5] at hf;obtain ⟨_,_,h3,_,_,_,h2,_,h4⟩:=jnm t (mem_mk hf)
    cases t with
    | nil=>cases h2
    | cons c x =>
      by_cases hc:c=47
      · have h5:=h4 hc;refine ⟨⟨c,x,rfl⟩,?_⟩;rw[h5];intro c' x' h6;injection h6 with h6 h7;subst h6;refine ⟨by decide,fun h=>?_⟩;rw[←h7] at h;rcases he with rfl | ⟨y,rfl⟩
        · simp at h
        · simp at h
      · exact key c x rfl h3 hc
  · exact key 36 t rfl (by decide) (by decide)
  · exact key 36 (36 :: t) rfl (by decide) (by decide)
theorem pre_print {pat:Bool} {k:Int} {t:List UInt8} (h:jb8 k t=true) (e:List UInt8) (he:e=[]∨∃x,e=32 :: x) (hp:pat=true∨(k≠6∧k≠7)) :
    jcy pat (jhr k t++e)=(k,t,(jhr k t).length):=by
  have hf:=(jfy h).1
  have hw:∀l:List UInt8,l.all wdB=true→jbl (l++e)=l:=by
    intro l hl;refine tw_app l e hl fun c hc=>?_;rcases he with rfl | ⟨x,rfl⟩
    · cases hc
    · injection hc with hc;subst hc;decide
  rcases form_kinds hf with rfl | rfl | rfl | rfl | rfl | rfl | rfl
  · rw[form1] at hf;obtain ⟨c,x,rfl,hc,ha,hk⟩:=jij hf;show jcy pat (c :: x++e)=(1,c :: x,(c :: x).length);rw[jdr (r:=c :: x++e) hc,hw _ ha,hk];try rfl
  · rw[form2] at hf;obtain ⟨ha,h2,h3,_⟩:=jlv t (mem_kw hf);show jcy pat (t++e)=(2,t,t.length)
    cases t with
    | nil=>cases h2
    | cons c x =>
      rw[jdr (r:=c :: x++e) h3,hw _ ha,hf];try rfl
  · obtain ⟨c,x,rfl,hc,ha⟩:=int_facts hf;show jcy pat (c :: x++e)=(3,c :: x,(c :: x).length)
    have hi:jho (c :: x++e)=c :: x:=by
      refine tw_app (c :: x) e ha fun b hb=>?_;rcases he with rfl | ⟨x,rfl⟩
      · cases hb
      · injection hb with hb;subst hb;decide
    rw[jf9 (r:=c :: x++e) hc,hi]
  · rw[form4] at hf;show jcy pat (34 :: ((jff t++[34])++e))=(4,t,(34 :: (jff t++[34])).length);rw[jeq,List.append_assoc,show [34]++e=34 :: e from rfl,litS_quote t e hf];simp
  · rw[form5] at hf;obtain ⟨h1,h2,_,h3,h4,h5,h6,h7,_⟩:=jnm t (mem_mk hf);show jcy pat (t++e)=(5,t,t.length)
    cases t with
    | nil=>cases h6
    | cons c x =>
      have h1:dgB c=false:=h1;have h2:ltB c=false:=h2;have h3:¬c=34:=h3;have h4:¬c=36:=h4;rw[List.cons_append,jds h1 h2 h3 (fun h=>h4 h.2)]
      cases x with
      | nil =>
        obtain ⟨h7,_⟩:=h7 rfl;rcases he with rfl | ⟨y,rfl⟩
        · rw[if_neg (by simp)];try rfl
        · rw[if_neg (show ¬(2≤(c :: ([]++32 :: y)).length∧jim ((c :: ([]++32 :: y)).take 2)=true) from fun h=>by
            have h8:=h.2;rw[show List.take 2 (c :: ([]++32 :: y))=[c]++[32] from rfl,h7] at h8
            cases h8)]
          rfl
      | cons b x =>
        cases x with
        | nil =>
          rw[if_pos ⟨by simp,by simpa using hf⟩];try rfl
        | cons _ _=>simp at h5
  · rcases hp with rfl | hp
    · rw[form6] at hf;obtain ⟨c,x,rfl,hc,ha,hk⟩:=jij hf;show jcy true (36 :: (c :: x++e))=(6,c :: x,(36 :: c :: x).length)
      rw[jg8 _ (fun h=>by
        have h:c=36:=h;subst h
        exact absurd hc (by decide)),hw _ ha]
      simp only[List.length_cons];congr 2;omega
    · exact absurd rfl hp.1
  · rcases hp with rfl | hp
    · rw[form7] at hf;obtain ⟨c,x,rfl,hc,ha,hk⟩:=jij hf;show jcy true (36 :: 36 :: (c :: x++e))=(7,c :: x,(36 :: 36 :: c :: x).length);rw[jg9,hw _ ha];simp only[List.length_cons];congr 2;omega
    · exact absurd rfl hp.2
theorem text_one (x:Tk):jc6 [x]=jhr x.kind x.text:=rfl
theorem text_more (x y:Tk) (l:List Tk):jc6 (x :: y :: l)=jhr x.kind x.text++32 :: jc6 (y :: l):=rfl
theorem text_cons (x:Tk) (l:List Tk):∃e,(e=[]∨∃z,e=32 :: z)∧jc6 (x :: l)=jhr x.kind x.text++e∧(jad (x :: l)=true→skS e=jc6 l)∧e.length≤(jc6 l).length+1:=by
  cases l with
  | nil=>exact ⟨[],Or.inl rfl,by rw[text_one,List.append_nil],fun _=>rfl,by simp⟩
  | cons y l =>
    refine ⟨32 :: jc6 (y :: l),Or.inr ⟨_,rfl⟩,text_more x y l,fun h=>?_,by simp⟩;unfold jad at h;simp only[List.all_cons,Bool.and_eq_true] at h
    have hb:Bare (jc6 (y :: l)):=by
      cases l with
      | nil =>
        have:=(jld h.2.1 [] (Or.inl rfl)).2;rw[List.append_nil] at this;exact this
      | cons z l=>exact (jld h.2.1 (32 :: jc6 (z :: l)) (Or.inr ⟨_,rfl⟩)).2
    show skB false (32 :: jc6 (y :: l))=_;unfold skB;rw[if_pos (show blB 32=true by decide)];exact hb.sk
def metaT (t:Tk):Bool:=decide (t.kind=6)||decide (t.kind=7)
theorem jmc:∀(l:List Tk) (k:Nat) (pat:Bool) (D n:Nat),jad l=true→(jc6 l).length<k→n+l.length≤600 →
    ((pat=true∨l.any metaT=false)→∃m,jea k pat D n (jc6 l)=.ok m∧ktS m=ktS l) ∧
    (pat=false→l.any metaT=true→∃a,jea k pat D n (jc6 l)=.error (a,11)):=by
  intro l
  induction l with
  | nil =>
    intro k pat D n _ _ _;exact ⟨fun _=>⟨[],jez _ _ _ _,rfl⟩,fun _ h=>(by cases h)⟩
  | cons x l ih =>
    intro k pat D n hr hk hn;obtain ⟨e,he,ht,hs,hel⟩:=text_cons x l;have hs:=hs hr
    have hx:jb8 x.kind x.text=true:=by
      unfold jad at hr;simp only[List.all_cons,Bool.and_eq_true] at hr;exact hr.1
    have hl:jad l=true:=by
      unfold jad at hr ⊢;simp only[List.all_cons,Bool.and_eq_true] at hr;exact hr.2
    obtain ⟨⟨c,y,hcy⟩,_⟩:=jld hx e he;simp only[List.length_cons] at hn;rw[ht] at hk ⊢;rw[List.length_append] at hk;have h32:(jc6 l).length≤e.length:=by rw[←hs];exact jf7 e false
    cases k with
    | zero=>omega
    | succ k =>
      obtain ⟨h1,h2⟩:=ih k pat D (n+1) hl (by rw[hcy] at hk;simp only[List.length_cons] at hk;omega) (by omega);have hform:=hcy;by_cases hp:pat=true∨(x.kind≠6∧x.kind≠7)
      · have hpre:=pre_print (pat:=pat) hx e he hp;(have herr:jgj pat (jhr x.kind x.text++e)=0:=by unfold jgj;rw[hpre];exact jgr hx);rw[hcy,List.cons_append] at herr hpre ⊢
        have hd:skS ((c :: (y++e)).drop (jcy pat (c :: (y++e))).2.2)=jc6 l:=by
          rw[hpre,←hcy];(have:c :: (y++e)=jhr x.kind x.text++e:=by rw[hcy];rfl);rw[this,List.drop_append,List.drop_length,Nat.sub_self,List.drop_zero,List.nil_append];exact hs
        rw[ji4 herr (by omega),hd];constructor
        · intro h
          obtain ⟨m,hm,hkt⟩:=h1 (by
            rcases h with h | h
            · exact Or.inl h
            · simp only[List.any_cons,Bool.or_eq_false_iff] at h
              exact Or.inr h.2)
          rw[hm];refine ⟨_,rfl,?_⟩;unfold ktS at hkt ⊢;rw[List.map_cons,List.map_cons,hkt,hpre]
        · intro hf h;rcases hp with hp | hp
          · rw[hp] at hf;cases hf
          · simp only[List.any_cons,Bool.or_eq_true] at h;rcases h with h | h
            · unfold metaT at h;simp only[Bool.or_eq_true,decide_eq_true_eq] at h;rcases h with h | h
              · exact absurd h hp.1
              · exact absurd h hp.2
            · obtain ⟨a,ha⟩:=h2 hf h;rw[ha];exact ⟨a,rfl⟩
      · have hpf:pat=false:=by
          cases pat with
          | false=>rfl
          | true=>exact absurd (Or.inl rfl) hp
        subst hpf
        have hk67:x.kind=6∨x.kind=7:=by
          by_cases h6:x.kind=6
          · exact Or.inl h6
          · by_cases h7:x.kind=7
            · exact Or.inr h7
            · exact absurd (Or.inr ⟨h6,h7⟩) hp
        have hc36:c=36:=by
          rcases hk67 with h | h<;>rw[h] at hcy
          · have:jhr 6 x.text=36 :: x.text:=rfl;rw[this] at hcy;injection hcy with h _;exact h.symm
          · have:jhr 7 x.text=36 :: 36 :: x.text:=rfl;rw[this] at hcy;injection hcy with h _;exact h.symm
        subst hc36;rw[hcy,List.cons_append];have herr:=err_sign (y++e);constructor
        · intro h;rcases h with h | h
          · cases h
          · simp only[List.any_cons,Bool.or_eq_false_iff] at h;have:=h.1;unfold metaT at this;rcases hk67 with h | h<;>rw[h] at this<;>exact absurd this (by decide)
        · intro _ _;rw[jkh (by rw[herr];decide),herr];exact ⟨_,rfl⟩
theorem jmh {l:List Tk} (h:jad l=true):skS (jc6 l)=jc6 l:=by
  cases l with
  | nil=>rfl
  | cons x l =>
    obtain ⟨e,he,ht,_,_⟩:=text_cons x l;unfold jad at h;simp only[List.all_cons,Bool.and_eq_true] at h;rw[ht];exact (jld h.1 e he).2.sk
theorem back_pattern {l:List Tk} (h:jad l=true) (hn:l.length≤600):∃m,jcx true (jc6 l)=.ok m∧ktS m=ktS l:=by
  unfold jcx;rw[jmh h];exact (jmc l _ true _ 0 h (by omega) (by omega)).1 (Or.inl rfl)
theorem back_plain {l:List Tk} (h:jad l=true) (hn:l.length≤600) (hm:l.any metaT=false):∃m,jcx false (jc6 l)=.ok m∧ktS m=ktS l:=by
  unfold jcx;rw[jmh h];exact (jmc l _ false _ 0 h (by omega) (by omega)).1 (Or.inr hm)
end
section
open Go.RowKit
open Go.Lib (byteCells strCells)
open Go.ChangeShapes (block_add)
open Go.Deep (add_add)
section
variable {P:Program} {ops:Array Oper} {rest:List Oper} {o:Oper} {a:Act} {Q:Exit→Act→World→Prop}
theorem wp_join (hgd:o.guard=none) (s x:Operand) (t:TypeId) (ho:o.op=.call { callee:=.builtin .append,args:=#[s,x],argTypes:=#[t,t] })
    (e:TypeId) (i:TypeInfo) (z:Value) (bytes:Nat) (ht:P.underlying t=some (.slice e)) (hi:P.info? e=some i) (hz:i.zero=some z) (hsize:i.size=1) (hby:i.bytes=bytes) (hzs:z.cells.size=1)
    (B:Nat) (v:Value) (xs:List Value) (hs:a.eval s=v) (w:World) (hown:Own w B e v xs) (hB:B≤w.heap.size)
    (A:Option Addr) (n c:Nat) (ys:List Value) (hx:a.eval x=.slice A n c) (hsl:Sl w A n c ys) (hone:∀u∈ys,u.oneCell'=true) (hlen:(xs.length+n)*bytes≤140737488355328) (h63:xs.length+n≤maxLen)
    (h:∀v' w',Own w' B e v' (xs++ys)→Below B w w'→wpList P ops Q rest (a.put o.dst v') w'):wpList P ops Q (o :: rest) a w:=by
  obtain ⟨hnc,hc,hA,hr⟩:=hsl;have hyl:ys.length=n:=hr.1;have hl1:(xs++ys).length=xs.length+n:=by rw[List.length_append,hyl]
  cases A with
  | none =>
    have hc0:=hA rfl;(have hn0:n=0:=by omega);subst hc0 hn0;obtain rfl:ys=[]:=List.eq_nil_of_length_eq_zero hyl;refine wpList_append_own_none hgd s x t ho B e i 1 ht hi v xs.length xs hs hown hx ?_;exact h v w (by rw[List.append_nil];exact hown) (Below.refl _ _)
  | some ad =>
    refine wpList_append_own _ hgd s x t ho B e i z 1 bytes ht hi hz hsize hby hzs (by decide) v xs.length xs hs hown ad n c ys hx (by omega) (fun j u hu=>?_) hone h63 hlen hB ?_
    · obtain ⟨ad',e',_,h3⟩:=hr.2 j u hu;cases e';exact h3
    · intro v' w' hown' hg _;refine h v' w' (by unfold Own;rw[hl1];exact hown') ?_;exact (Below.refl B w).grown hg hB fun k hk=>(hown.lt k hk).1
end
end
section
open Go.RowKit
theorem join_len (m:Nat):∀ts:List (List UInt8),(∀t∈ts,t.length≤m)→(jn2 ts).length≤(m+1)*ts.length
  | [],_=>Nat.le_refl _
  | [x],h=>by
    have:=h x (List.mem_cons_self ..)
    show x.length≤_
    simp only[List.length_cons,List.length_nil]
    omega
  | x :: y :: l,h=>by
    have ih:=join_len m (y :: l) (fun t ht=>h t (List.mem_cons_of_mem _ ht))
    have:=h x (List.mem_cons_self ..)
    show (x++32 :: jn2 (y :: l)).length≤_
    rw[List.length_append,List.length_cons,List.length_cons (a:=x),Nat.mul_add]
    omega
def Short (l:List Tk):Prop:=∀t∈l,t.text.length≤100
theorem print_len {l:List Tk} (h:Short l):(jc6 l).length≤203*l.length:=by
  have:=join_len 202 (l.map fun t=>jhr t.kind t.text) (fun t ht=>by
    obtain ⟨x,hx,rfl⟩:=List.mem_map.1 ht;have h1:=h x hx;have h2:=tokP_len x.kind x.text
    omega)
  rw[List.length_map] at this;exact this
end
section
theorem simT_kt {T T':List Tk} (h:ktS T=ktS T'):SimT T T' 0:=by
  intro i;have:=congrArg (fun l=>l[i]?) h;simpa [ktS] using this
theorem mod_sim {T T':List Tk} {len len':Int} (hT:SimT T T' 0):jc8 (modP T len).1=jc8 (modP T' len').1∧jg2 0 (modP T len).2 (modP T' len').2:=by
  obtain ⟨h1,h2⟩:=rd_sim (len:=len) (len':=len') hT (SimN.same .imports) (s:=⟨0,none⟩) (s':=⟨0,none⟩) ⟨rfl,rfl⟩;obtain ⟨h3,h4⟩:=rd_sim (len:=len) (len':=len') hT (SimN.same .decls) h2;exact ⟨jgu (stripL_app (jhf h1) (jhf h3)),h4⟩
theorem module_blanks {d:List UInt8} {n:Nd} {a:Int} (h:jdh d=(n,a,0)):∃T,jcx false d=.ok T∧jad T=true∧T.length≤600∧∃m,jdh (jc6 T)=(m,0,0)∧jc8 m=jc8 n:=by
  obtain ⟨T,hs,_⟩:=jlr h;obtain ⟨har,hl⟩:=(jc0 false d).1 T hs
  have hany:T.any metaT=false:=by
    rw[List.any_eq_false];intro t ht;have:=scan_plain _ _ _ _ _ hs t ht;unfold metaT;simp[this.1,this.2]
  obtain ⟨T',hs',hkt⟩:=back_plain har hl hany;have hT:=simT_kt hkt.symm;unfold jdh at h;rw[hs] at h;obtain ⟨h1,h2⟩:=mod_sim (len:=(d.length:Int)) (len':=((jc6 T).length:Int)) hT;obtain ⟨m,hm,hst⟩:=top_sim (len':=((jc6 T).length:Int)) hT h1 h2 h;refine ⟨T,hs,har,hl,m,?_,hst⟩;unfold jdh;rw[hs'];exact hm
end
section
open Go.RowKit
theorem tw_full (p:UInt8→Bool) (d:List UInt8):decide ((d.takeWhile p).length=d.length)=d.all p:=by
  induction d with
  | nil=>rfl
  | cons c d ih =>
    rw[Bool.eq_iff_iff,decide_eq_true_eq] at ih ⊢;simp only[List.takeWhile,List.all_cons];cases hp:p c
    · simp
    · simpa using ih
theorem rname (s:ByteArray) (hs:s.size≤2000000) (q:Bool) (hq:(jjk s.data.toList&&decide (s.data.toList.length≤24))=q) (w:World) :
    Calls Tryz.prog 96 #[.string s] w fun e w'=>e=.returned (.bool q)∧Below w.heap.size w w':=by
  rw[size_list] at hq;by_cases h0:s.size=0
  · obtain rfl:=empty_of' h0;have Hq:=jj (show false=q from hq);clear hq h0;go_enter Tryz.func96,Tryz.ntmps96;go_wp2;go_ret;exact ⟨ja1 Hq.out,Below.refl _ _⟩
  · (have hpos:0<s.size:=by omega);(have hp1:(0:Int)<(s.size:Int):=by omega);rw[name_ways hpos] at hq;by_cases h24:s.size≤24
    · have hd:decide ((s.size:Int)≤24)=true:=decide_eq_true (by omega);rw[decide_eq_true h24,Bool.and_true] at hq;have HL:=jj (fun W=>jjt s[0] W)
      cases hl:ltB s[0] with
      | false =>
        have Hq:=jj (show false=q by rw[←hq,hl];rfl);rw[hl] at HL;clear hq hl h0;go_enter Tryz.func96,Tryz.ntmps96;go_wp2_with fail;(with_reducible refine (HL.out _).mono ?_);rintro e w3 ⟨rfl,rfl⟩;go_wp2;go_ret;exact ⟨ja1 Hq.out,Below.refl _ _⟩
      | true =>
        have hf:=tw_full wdB s.data.toList;rw[size_list] at hf;obtain ⟨E,hE⟩:=jx ((jbl s.data.toList).length);have HW:=jj (fun W=>rword s 0 (Nat.zero_le _) hs E (by rw[List.drop_zero,Nat.zero_add];exact hE) W);rw[show (s.data.toList.takeWhile wdB).length=E from hE] at hf;rw[hl] at HL;have HW:=jj (show ∀W,Calls Tryz.prog 150 #[.string s,.int .i64 0] W fun e w'=>e=.returned (.int .i64 (E:Int))∧W=w' from HW.out);by_cases hall:E=s.size
        · (have hE2:((E:Int)==(s.size:Int))=true:=by rw[beq_iff_eq];omega);rw[decide_eq_true hall] at hf;have HK:=jj (fun W=>jll s _ rfl W);obtain ⟨k,hk⟩:=jx (jjm s.data.toList);rw[hk] at HK;have Hq:=jj (show (!k)=q by rw[←hq,hl,←hf,hk];rfl);clear hq hl h0 hf hE hall hk;go_enter Tryz.func96,Tryz.ntmps96;go_wp2_with fail;(with_reducible refine (HL.out _).mono ?_);rintro e w3 ⟨rfl,rfl⟩;go_wp2_with fail;(with_reducible refine (HW.out _).mono ?_);rintro e w3 ⟨rfl,rfl⟩;go_wp2_with fail;(with_reducible refine (HK.out _).mono ?_);rintro e w3 ⟨rfl,hb⟩;have HB:=jj hb;clear hb;go_wp2;go_ret;exact ⟨ja1 Hq.out,HB.out⟩
        · (have hE2:((E:Int)==(s.size:Int))=false:=by rw[beq_eq_false_iff_ne];omega);rw[decide_eq_false hall] at hf;have Hq:=jj (show false=q by rw[←hq,hl,←hf];rfl);clear hq hl h0 hf hE hall;go_enter Tryz.func96,Tryz.ntmps96;go_wp2_with fail;(with_reducible refine (HL.out _).mono ?_);rintro e w3 ⟨rfl,rfl⟩;go_wp2_with fail;(with_reducible refine (HW.out _).mono ?_);rintro e w3 ⟨rfl,rfl⟩;go_wp2;go_ret;exact ⟨ja1 Hq.out,Below.refl _ _⟩
    · have hd:decide ((s.size:Int)≤24)=false:=decide_eq_false (by omega);have Hq:=jj (show false=q by rw[←hq,decide_eq_false h24,Bool.and_false]);clear hq h0;go_enter Tryz.func96,Tryz.ntmps96;go_wp2;go_ret;exact ⟨ja1 Hq.out,Below.refl _ _⟩
theorem con_ways (c:UInt8):(!jkq c)=(((c.toNat:Int) != 10)&&(decide ((c.toNat:Int)<32)||decide ((c.toNat:Int) > 126))):=by
  have h10:((c.toNat:Int)==10)=(c==10):=beq10 c;unfold jkq visB bne;rw[h10]
  cases hc:(c==10) with
  | true=>rfl
  | false =>
    simp only[Bool.false_or,Bool.not_false,Bool.true_and,Bool.not_and];rw[Bool.eq_iff_iff];simp;omega
theorem rcontents (s:ByteArray) (hs:s.size≤2000000) (q:Bool) (hq:(s.data.toList.all jkq&&decide (s.data.toList.length≤60))=q) (w:World) :
    Calls Tryz.prog 98 #[.string s] w fun e w'=>e=.returned (.bool q)∧w=w':=by
  rw[size_list] at hq;have Hq:=jj hq;clear hq;go_enter Tryz.func98,Tryz.ntmps98;go_wp2_with fail
  go_loopw [3] (fun y wr=>∃j:Nat,j≤s.size∧y=.int .i64 (j:Int)∧(s.data.toList.take j).all jkq=true∧wr=w) (fun y _=>s.size - (intOf y).toNat)
  case atStart=>exact ⟨0,Nat.zero_le _,rfl,rfl,rfl⟩
  case round =>
    obtain ⟨j,hj,rfl,hm,rfl⟩:=hrel;by_cases hlt:j<s.size
    · (have hji:(j:Int)<(s.size:Int):=by omega);have hw:=con_ways s[j];have hc:=jgc s[j]
      cases hcb:jkq s[j] with
      | true =>
        have Hn:=jj (jec hm hlt hcb);rw[hcb] at hw;clear hm hcb;by_cases h10:(s[j]).toNat=10
        · (have e10:(((s[j]).toNat:Int) != 10)=false:=by rw[h10];rfl);clear hw;go_wp2;go_roundw
          case rel=>exact ⟨j+1,by omega,by go_num,Hn.out,trivial⟩
          case measure=>simp[intOf];omega
        · (have e10:(((s[j]).toNat:Int) != 10)=true:=by unfold bne;rw[beq_eq_false_iff_ne.2 (by omega)];rfl);rw[e10,Bool.true_and] at hw;have hw:=Bool.or_eq_false_iff.1 hw.symm;have l32:¬((s[j]).toNat:Int)<32:=of_decide_eq_false hw.1;have g126:¬((s[j]).toNat:Int) > 126:=of_decide_eq_false hw.2;have d32:decide (((s[j]).toNat:Int)<32)=false:=hw.1;have d126:decide (((s[j]).toNat:Int) > 126)=false:=hw.2;clear hw h10;go_wp2;go_roundw
          case rel=>exact ⟨j+1,by omega,by go_num,Hn.out,trivial⟩
          case measure=>simp[intOf];omega
      | false =>
        have Hy:=jj (show false=q by rw[←Hq.out,jge hlt hcb];rfl);rw[hcb] at hw;have hw:=Bool.and_eq_true_iff.1 hw.symm;have e10:(((s[j]).toNat:Int) != 10)=true:=hw.1;have hw2:=Bool.or_eq_true_iff.1 hw.2;clear hm hcb hw;by_cases l32:(s[j]).toNat<32
        · have d32:decide (((s[j]).toNat:Int)<32)=true:=decide_eq_true (by omega);clear hw2;go_wp2;go_ret;exact ⟨ja1 Hy.out,rfl⟩
        · have d32:decide (((s[j]).toNat:Int)<32)=false:=decide_eq_false (by omega);(have d126:decide (((s[j]).toNat:Int) > 126)=true:=by rcases hw2 with h | h;rw[d32] at h;cases h;exact h);have g126:((s[j]).toNat:Int) > 126:=of_decide_eq_true d126;clear hw2;go_wp2;go_ret;exact ⟨ja1 Hy.out,rfl⟩
    · have hji:¬(j:Int)<(s.size:Int):=by omega
      have Hy:=jj (show decide ((s.size:Int)≤60)=q by
        rw[List.take_of_length_le (by rw[size_list];omega)] at hm;rw[←Hq.out,hm,Bool.true_and]
        exact decide_eq_decide.2 (by omega))
      clear hm;go_wp2;go_ret;exact ⟨ja1 Hy.out,rfl⟩
theorem rdigits (s:ByteArray) (hs:s.size≤2000000) (q:Bool) (hq:digR s.data.toList=q) (w:World) :
    Calls Tryz.prog 97 #[.string s] w fun e w'=>e=.returned (.bool q)∧w=w':=by
  unfold digR at hq;rw[size_list] at hq;have Hq:=jj hq;clear hq;go_enter Tryz.func97,Tryz.ntmps97;go_wp2_with fail
  go_loopw [3] (fun y wr=>∃j:Nat,j≤s.size∧y=.int .i64 (j:Int)∧(s.data.toList.take j).all dgB=true∧wr=w) (fun y _=>s.size - (intOf y).toNat)
  case atStart=>exact ⟨0,Nat.zero_le _,rfl,rfl,rfl⟩
  case round =>
    obtain ⟨j,hj,rfl,hm,rfl⟩:=hrel;by_cases hlt:j<s.size
    · (have hji:(j:Int)<(s.size:Int):=by omega);have HD:=jj (fun W=>jmv s[j] W)
      cases hcb:dgB s[j] with
      | true =>
        have Hn:=jj (jec hm hlt hcb);rw[hcb] at HD;clear hm hcb;go_wp2_with fail;(with_reducible refine (HD.out _).mono ?_);rintro e w3 ⟨rfl,rfl⟩;go_wp2;go_roundw
        case rel=>exact ⟨j+1,by omega,by go_num,Hn.out,trivial⟩
        case measure=>simp[intOf];omega
      | false =>
        have Hy:=jj (show false=q by rw[←Hq.out,jge hlt hcb];rfl);rw[hcb] at HD;clear hm hcb;go_wp2_with fail;(with_reducible refine (HD.out _).mono ?_);rintro e w3 ⟨rfl,rfl⟩;go_wp2;go_ret;exact ⟨ja1 Hy.out,rfl⟩
    · have hji:¬(j:Int)<(s.size:Int):=by omega
      have hall:s.data.toList.all dgB=true:=by
        rw[List.take_of_length_le (by rw[size_list];omega)] at hm;exact hm
      have hq:=Hq.out;rw[hall,Bool.true_and] at hq;clear hm hall hj;by_cases h0:s.size=0
      · have hg:decide ((s.size:Int)≥1)=false:=decide_eq_false (by omega);have hg':decide ((1:Int)≤(s.size:Int))=false:=decide_eq_false (by omega);have Hy:=jj (show false=q by rw[←hq,decide_eq_false (by omega)];rfl);clear hq;go_wp2;go_ret;exact ⟨ja1 Hy.out,rfl⟩
      · (have hpos:0<s.size:=by omega);have hg:decide ((s.size:Int)≥1)=true:=decide_eq_true (by omega);have hg':decide ((1:Int)≤(s.size:Int))=true:=decide_eq_true (by omega);rw[decide_eq_true (show 1≤s.size by omega),Bool.true_and] at hq;by_cases h9:s.size≤9
        · have hd9:decide ((s.size:Int)≤9)=true:=decide_eq_true (by omega);rw[decide_eq_true h9,Bool.true_and] at hq;by_cases h1:s.size=1
          · (have e1:((s.size:Int)==1)=true:=by rw[beq_iff_eq];omega);have Hy:=jj (show true=q by rw[←hq,decide_eq_true h1];rfl);clear hq h1;go_wp2;go_ret;exact ⟨ja1 Hy.out,rfl⟩
          · (have e1:((s.size:Int)==1)=false:=by rw[beq_eq_false_iff_ne];omega);have e48:(((s[0]).toNat:Int)==48)=(s[0]==48):=je9 (by decide);(have hp1:(0:Int)<(s.size:Int):=by omega);obtain ⟨y,hy⟩:=jx ((s[0]==48));rw[hy] at e48;have e48':(((s[0]).toNat:Int) != 48)=!y:=by unfold bne;rw[e48]
            have Hy:=jj (show (!y)=q by
              have hh:=jnp hpos;rw[←hq,decide_eq_false h1,Bool.false_or,hh];show _=!(s[0]==48)
              rw[hy])
            clear hq h1 hy;cases y
            all_goals
              go_wp2;go_ret;exact ⟨ja1 Hy.out,rfl⟩
        · have hd9:decide ((s.size:Int)≤9)=false:=decide_eq_false (by omega);have Hy:=jj (show false=q by rw[←hq,decide_eq_false h9];rfl);clear hq;go_wp2;go_ret;exact ⟨ja1 Hy.out,rfl⟩
theorem right_none {k:Int} (hk:¬(k=1∨k=6∨k=7)) (h2:¬k=2) (h3:¬k=3) (h4:¬k=4) (h5:¬k=5) (t:List UInt8):jb8 k t=false:=by
  rw[jki];unfold jgq;rw[if_neg hk,if_neg h2,if_neg h3,if_neg h4,if_neg h5];try rfl
theorem rright (k a e:Int) (s:ByteArray) (hs:s.size≤2000000) (q:Bool) (hq:jb8 k s.data.toList=q) (w:World) :
    Calls Tryz.prog 54 #[.agg #[.int .i64 k,.string s,.int .i64 a,.int .i64 e]] w fun en w'=>en=.returned (.bool q)∧Below w.heap.size w w':=by
  have HB:=jj (jak (Below.refl w.heap.size w) (.cells #[.int .i64 k,.string s,.int .i64 a,.int .i64 e] 66));by_cases hname:k=1∨k=6∨k=7
  · rw[right_name hname] at hq;have HN:=jj (fun W=>rname s hs q hq W);clear hq;rcases hname with rfl | rfl | rfl
    all_goals
      go_enter Tryz.func54,Tryz.ntmps54;go_wp2_with fail;(with_reducible refine (HN.out _).mono ?_);rintro en w1 ⟨rfl,hb⟩;have HB1:=jj (bgo HB.out hb);clear hb;go_wp2;go_ret;exact ⟨rfl,HB1.out⟩
  · have e1:(k==1)=false:=beq_eq_false_iff_ne.2 (by omega);have e6:(k==6)=false:=beq_eq_false_iff_ne.2 (by omega);have e7:(k==7)=false:=beq_eq_false_iff_ne.2 (by omega);by_cases h2:k=2
    · subst h2;rw[right_kw] at hq;have HN:=jj (fun W=>jll s q hq W);clear hq hname e1 e6 e7;go_enter Tryz.func54,Tryz.ntmps54;go_wp2_with fail;(with_reducible refine (HN.out _).mono ?_);rintro en w1 ⟨rfl,hb⟩;have HB1:=jj (bgo HB.out hb);clear hb;go_wp2;go_ret;exact ⟨rfl,HB1.out⟩
    · have e2:(k==2)=false:=beq_eq_false_iff_ne.2 h2;by_cases h3:k=3
      · subst h3;rw[right_int] at hq;have HN:=jj (fun W=>rdigits s hs q hq W);clear hq hname e1 e6 e7 h2 e2;go_enter Tryz.func54,Tryz.ntmps54;go_wp2_with fail;(with_reducible refine (HN.out _).mono ?_);rintro en w1 ⟨rfl,rfl⟩;go_wp2;go_ret;exact ⟨rfl,HB.out⟩
      · have e3:(k==3)=false:=beq_eq_false_iff_ne.2 h3;by_cases h4:k=4
        · subst h4;rw[right_text] at hq;have HN:=jj (fun W=>rcontents s hs q hq W);clear hq hname e1 e6 e7 h2 e2 h3 e3;go_enter Tryz.func54,Tryz.ntmps54;go_wp2_with fail;(with_reducible refine (HN.out _).mono ?_);rintro en w1 ⟨rfl,rfl⟩;go_wp2;go_ret;exact ⟨rfl,HB.out⟩
        · have e4:(k==4)=false:=beq_eq_false_iff_ne.2 h4;by_cases h5:k=5
          · subst h5;rw[jmf] at hq;have HN:=jj (fun W=>rmark s q hq W);clear hq hname e1 e6 e7 h2 e2 h3 e3 h4 e4;go_enter Tryz.func54,Tryz.ntmps54;go_wp2_with fail;(with_reducible refine (HN.out _).mono ?_);rintro en w1 ⟨rfl,hb⟩;have HB1:=jj (bgo HB.out hb);clear hb;go_wp2;go_ret;exact ⟨rfl,HB1.out⟩
          · have e5:(k==5)=false:=beq_eq_false_iff_ne.2 h5;have Hq:=jj (show false=q by rw[←hq,right_none hname h2 h3 h4 h5]);clear hq hname h2 h3 h4 h5;go_enter Tryz.func54,Tryz.ntmps54;go_wp2;go_ret;exact ⟨ja1 Hq.out,HB.out⟩
end
end Go.Proofs.YtonoklmobocikaaGreatDoor
