/- Lemmas. -/
import Derived.Deep.RegionHeld3
import Derived.Test.YtonoklmobocikaaGreatDoorK07
set_option linter.unusedVariables false
set_option linter.unusedSimpArgs false
set_option maxRecDepth 20000
set_option maxHeartbeats 6400000
namespace Go.Proofs.YtonoklmobocikaaGreatDoor
section
open Go.RowKit
structure QS (W:World) (p:Nat) (A:Option Addr) (n c:Nat) (len:Int) (T:List Tk) (i:Nat):Prop where
  st:PSt 74 W p #[.slice A n c,.int .i64 (i:Int),.int .i64 len] A n c T
  ib:i≤n
  n6:n≤2000000
  tl:∀(i:Nat) (t:Tk),T[i]?=some t→t.text.length≤100000
  rt:jad T=true
section
variable {W W':World} {p:Nat} {A:Option Addr} {n c:Nat} {len:Int} {T:List Tk} {i:Nat}
theorem QS.cells (h:QS W p A n c len T i):W.cell? ⟨p,0,none⟩=some (.slice A n c)∧W.cell? ⟨p,1,none⟩=some (.int .i64 (i:Int))∧W.cell? ⟨p,2,none⟩=some (.int .i64 len):=⟨h.st.cell rfl,h.st.cell rfl,h.st.cell rfl⟩
theorem QS.tks (h:QS W p A n c len T i):T.length=n∧n≤c∧c≤9223372036854775807:=h.st.tks
theorem QS.tk (h:QS W p A n c len T i):TkP W p A n c T:=h.st.2
theorem QS.keep (h:QS W p A n c len T i) (hb:Below W.heap.size W W'):QS W' p A n c len T i:=⟨h.st.keep hb,h.ib,h.n6,h.tl,h.rt⟩
theorem QS.drawn (h:QS W p A n c len T i) (hd:Drawn W W'):QS W' p A n c len T i:=h.keep (hd.below _)
theorem QS.at_ {B:Nat} (h:QS W p A n c len T i) (hb:Below B W W') (hB:p<B):QS W' p A n c len T i:=⟨h.st.at_ hb hB,h.ib,h.n6,h.tl,h.rt⟩
theorem QS.next (h:QS W p A n c len T i) (hlt:i<n):QS (W.setCell ⟨p,1,none⟩ (.int .i64 ((i:Int)+1))) p A n c len T (i+1) :=
  ⟨by have:=h.st.set 1 (.int .i64 ((i:Int)+1));exact this,hlt,h.n6,h.tl,h.rt⟩
end
def kT (T:List Tk) (i:Nat):Int:=match T[i]? with | none=>0 | some t=>t.kind
def tT (T:List Tk) (i:Nat):List UInt8:=match T[i]? with | none=>[] | some t=>t.text
def jbg (T:List Tk) (i:Nat):List UInt8:=if kT T i=2∨kT T i=5 then tT T i else []
def jbk (a:Int):Ending:=.panicked [{ v:=.iface 71 (.agg #[.int .i64 a,.int .i64 11]),recovered:=false }]
section
variable {W:World} {p:Nat} {A:Option Addr} {n c:Nat} {len:Int} {T:List Tk} {i:Nat}
theorem qkindAt (h:QS W p A n c len T i) (j:Nat) :
    Calls Tryz.prog 177 #[.pointer (some ⟨p,0,none⟩),.int .i64 (j:Int)] W fun e w'=>e=.returned (.int .i64 (kT T j))∧W=w':=by
  obtain ⟨k0,k1,k2⟩:=h.cells;obtain ⟨hn,hnc,hcc⟩:=h.tks;have HT:=jj h.tk;have hn6:=h.n6;by_cases hlt:j<n
  · obtain ⟨g,o,t,rfl,ht,c0,c1,c2,c3⟩:=HT.out.at_ hlt;have HK:=jj (show t.kind=kT T j by unfold kT;simp[ht]);have d1:decide ((j:Int)≥(n:Int))=false:=decide_eq_false (by omega);(have d2:(j:Int)<(n:Int):=by omega);(have d3:(0:Int)≤(j:Int):=by omega);clear h hn ht;go_enter Tryz.func177,Tryz.ntmps177;go_wp2;go_ret;exact ⟨jck HK.out,rfl⟩
  · have HK:=jj (show kT T j=0 by unfold kT;simp[out_in hn hlt]);have d1:decide ((j:Int)≥(n:Int))=true:=decide_eq_true (by omega);clear h hn;go_enter Tryz.func177,Tryz.ntmps177;go_wp2;go_ret;exact ⟨jck HK.out.symm,rfl⟩
theorem ji5 (h:QS W p A n c len T i):Calls Tryz.prog 123 #[.pointer (some ⟨p,0,none⟩)] W fun e w'=>e=.returned (.int .i64 (kT T i))∧W=w':=by
  obtain ⟨k0,k1,k2⟩:=h.cells;have HC:=jj (qkindAt h i);clear h;go_enter Tryz.func123,Tryz.ntmps123;go_wp2_with fail;(with_reducible refine HC.out.mono ?_);rintro e w1 ⟨rfl,rfl⟩;go_wp2;go_ret;exact ⟨rfl,rfl⟩
theorem jl2 {j:Nat} (h:kT T j≠0):j<T.length:=by
  rcases Nat.lt_or_ge j T.length with hl | hl
  · exact hl
  · exact absurd (by unfold kT;rw[List.getElem?_eq_none hl]) h
theorem qfixedAt (h:QS W p A n c len T i) (j:Nat) :
    Calls Tryz.prog 124 #[.pointer (some ⟨p,0,none⟩),.int .i64 (j:Int)] W fun e w'=>e=.returned (.string (bs (jbg T j)))∧W=w':=by
  obtain ⟨k0,k1,k2⟩:=h.cells;obtain ⟨hn,hnc,hcc⟩:=h.tks;have HT:=jj h.tk;have hn6:=h.n6;have HC:=jj (qkindAt h j);by_cases hK:kT T j=2∨kT T j=5
  · (have hlt:j<n:=by have:=jl2 (T:=T) (j:=j) (by omega);omega);obtain ⟨g,o,t,rfl,ht,c0,c1,c2,c3⟩:=HT.out.at_ hlt;have HK:=jj (show t.text=jbg T j by unfold jbg tT;rw[if_pos hK,ht]);(have d2:(j:Int)<(n:Int):=by omega);(have d3:(0:Int)≤(j:Int):=by omega);rcases hK with hK | hK
    all_goals
      rw[hK] at HC;clear h hn ht hK;go_enter Tryz.func124,Tryz.ntmps124;go_wp2_with fail;(with_reducible refine HC.out.mono ?_);rintro e w1 ⟨rfl,rfl⟩;go_wp2;go_ret;exact ⟨by rw[HK.out];rfl,rfl⟩
  · have HK:=jj (show []=jbg T j by unfold jbg;rw[if_neg hK]);obtain ⟨K,hKe⟩:=jx (kT T j);rw[hKe] at HC hK;have e0:(K==2)=false:=beq_eq_false_iff_ne.2 fun e=>hK (Or.inl e);have e1:(K==5)=false:=beq_eq_false_iff_ne.2 fun e=>hK (Or.inr e);clear h hn hK hKe;go_enter Tryz.func124,Tryz.ntmps124;go_wp2_with fail;(with_reducible refine HC.out.mono ?_);rintro e w1 ⟨rfl,rfl⟩;go_wp2;go_ret;exact ⟨by rw[←HK.out];rfl,rfl⟩
theorem jfz (h:QS W p A n c len T i):Calls Tryz.prog 110 #[.pointer (some ⟨p,0,none⟩)] W fun e w'=>e=.returned (.string (bs (jbg T i)))∧W=w':=by
  obtain ⟨k0,k1,k2⟩:=h.cells;have HC:=jj (qfixedAt h i);clear h;go_enter Tryz.func110,Tryz.ntmps110;go_wp2_with fail;(with_reducible refine HC.out.mono ?_);rintro e w1 ⟨rfl,rfl⟩;go_wp2;go_ret;exact ⟨rfl,rfl⟩
theorem qsees (h:QS W p A n c len T i) (x:List UInt8) (z:ByteArray) (hz:z=bs x) :
    Calls Tryz.prog 61 #[.pointer (some ⟨p,0,none⟩),.string z] W fun e w'=>e=.returned (.bool (jbg T i==x))∧W=w':=by
  subst hz;have HC:=jj (jfz h);have hst:=str_beqL (jbg T i) x;obtain ⟨q,hq⟩:=jx ((jbg T i==x));obtain ⟨t,ht⟩:=jx (jbg T i);rw[hq] at hst ⊢;rw[ht] at hst HC;clear h hq ht;go_enter Tryz.func61,Tryz.ntmps61;go_wp2_with fail;(with_reducible refine HC.out.mono ?_);rintro e w1 ⟨rfl,rfl⟩;go_wp2;go_ret;exact ⟨rfl,rfl⟩
theorem qended (h:QS W p A n c len T i):Calls Tryz.prog 59 #[.pointer (some ⟨p,0,none⟩)] W fun e w'=>e=.returned (.bool (decide (T.length≤i)))∧Drawn W w':=by
  obtain ⟨k0,k1,k2⟩:=h.cells;obtain ⟨hn,hnc,hcc⟩:=h.tks;have hi:=h.ib;have hn6:=h.n6
  have HE:=jj (show ((i:Int)==(n:Int))=decide (T.length≤i) by
    rw[hn];by_cases he:i=n
    · subst he;simp
    · rw[decide_eq_false (by omega)]
      exact beq_eq_false_iff_ne.2 (by omega))
  obtain ⟨q,hq⟩:=jx (((i:Int)==(n:Int)));rw[hq] at HE;clear h hn;go_enter Tryz.func59,Tryz.ntmps59;go_wp2;go_quiet (fail);go_wp2;go_ret;exact ⟨ja1 HE.out,Drawn.more (Drawn.refl _) _⟩
theorem jf8 (h:QS W p A n c len T i):Calls Tryz.prog 109 #[.pointer (some ⟨p,0,none⟩)] W fun e w'=>e=.returned (.int .i64 (jaq T len ⟨i,none⟩))∧Drawn W w':=by
  have H:=jj h;have HC:=jj (qended h);obtain ⟨hn,hnc,hcc⟩:=h.tks;have hi:=h.ib;have hn6:=h.n6;by_cases hlt:i<n
  · rw[decide_eq_false (show ¬T.length≤i by omega)] at HC;clear h;go_enter Tryz.func109,Tryz.ntmps109;go_wp2_with fail;(with_reducible refine HC.out.mono ?_);rintro e w1 ⟨rfl,hd⟩;have H1:=jj (H.out.drawn hd);have HD:=jj hd;clear hd H;obtain ⟨k0,k1,k2⟩:=H1.out.cells;obtain ⟨g,o,t,rfl,ht,c0,c1,c2,c3⟩:=H1.out.tk.at_ hlt;have HK:=jj (show t.at_=jaq T len ⟨i,none⟩ by unfold jaq;simp[ht]);(have d2:(i:Int)<(n:Int):=by omega);(have d3:(0:Int)≤(i:Int):=by omega);clear hn ht;go_wp2;go_quiet (fail);go_wp2;go_ret;exact ⟨jck HK.out,Drawn.more HD.out _⟩
  · rw[decide_eq_true (show T.length≤i by omega)] at HC;have HK:=jj (show len=jaq T len ⟨i,none⟩ by unfold jaq;simp[out_in hn hlt]);clear h hn;go_enter Tryz.func109,Tryz.ntmps109;go_wp2_with fail;(with_reducible refine HC.out.mono ?_);rintro e w1 ⟨rfl,hd⟩;obtain ⟨k0,k1,k2⟩:=(H.out.drawn hd).cells;have HD:=jj hd;clear hd H;go_wp2;go_ret;exact ⟨jck HK.out,HD.out⟩
theorem qend (h:QS W p A n c len T i) (h0:0<i):Calls Tryz.prog 165 #[.pointer (some ⟨p,0,none⟩)] W fun e w'=>e=.returned (.int .i64 (jao T ⟨i,none⟩))∧Drawn W w':=by
  obtain ⟨k0,k1,k2⟩:=h.cells;obtain ⟨hn,hnc,hcc⟩:=h.tks;have hi:=h.ib;have hn6:=h.n6;obtain ⟨j,rfl⟩:∃j,i=j+1:=⟨i - 1,by omega⟩;(have hlt:j<n:=by omega);obtain ⟨g,o,t,rfl,ht,c0,c1,c2,c3⟩:=h.tk.at_ hlt;have HK:=jj (show t.en=jao T ⟨j+1,none⟩ by unfold jao;simp[ht]);obtain ⟨J,hJ⟩:∃J:Nat,j+1=J:=⟨_,rfl⟩;(have d4:(J:Int) - 1=(j:Int):=by omega);(have d2:(j:Int)<(n:Int):=by omega);(have d3:(0:Int)≤(j:Int):=by omega);rw[hJ] at k1 HK hi ⊢;clear h hn ht hJ h0;go_enter Tryz.func165,Tryz.ntmps165;go_wp2;go_quiet (fail);go_wp2;go_ret;exact ⟨jck HK.out,Drawn.more (Drawn.refl _) _⟩
end
end
section
open Go.RowKit
def FltN (w:World) (b:Nat) (c0 c1:Value):Prop:=b<w.heap.size∧w.cell? ⟨b,0,none⟩=some c0∧w.cell? ⟨b,1,none⟩=some c1
theorem load_flt {W:World} {b:Nat} {c0 c1:Value} (h:FltN W b c0 c1):(loadVar 71 ⟨b,0,none⟩).run Tryz.prog W=.ok (.agg #[c0,c1]) W:=by
  obtain ⟨h0,h1,h2⟩:=h;go_simp
theorem flt_box {fn:Func} {p:Tmp} (h:fn.results=#[.cell p 71]) (tmps:Array Value) (W:World) (b:Nat) (c0 c1:Value) (hp:tmps.getD p undef=.pointer (some ⟨b,0,none⟩)) (hf:FltN W b c0 c1) :
    (results fn tmps).run Tryz.prog W=.ok (.agg #[c0,c1]) W:=by
  (have hp':tmps[p]?.getD undef=.pointer (some ⟨b,0,none⟩):=by simpa using hp);simp[results,h,hp',asAddr,load_flt hf]
abbrev Oc (α:Type):=Except Int (α × Nat)
def jbx (T:List Tk) (len:Int) (x:List UInt8) (i:Nat):Oc Unit:=if jbg T i=x then .ok ((),i+1) else .error (jaq T len ⟨i,none⟩)
def jeb (T:List Tk) (len:Int) (i:Nat):Oc (List UInt8):=if kT T i=1 then .ok (tT T i,i+1) else .error (jaq T len ⟨i,none⟩)
theorem nameO_len {T:List Tk} {len:Int} {i j:Nat} {x:List UInt8} (h:jeb T len i=.ok (x,j)) (hS:∀j,(tT T j).length≤100000):x.length≤100000:=by
  unfold jeb at h;split at h
  · cases h;exact hS i
  · cases h
def GotU (p:Nat) (A:Option Addr) (n c:Nat) (len:Int) (T:List Tk) (w:World) (i:Nat) (r:Oc Unit) (e:Ending) (w':World):Prop :=
  Bt p w w'∧match r with | .error a=>e=jbk a | .ok x=>e=.returned (.tuple #[])∧QS w' p A n c len T x.2∧i<x.2
def GotT (p:Nat) (A:Option Addr) (n c:Nat) (len:Int) (T:List Tk) (w:World) (i:Nat) (r:Oc (List UInt8)) (e:Ending) (w':World):Prop :=
  Bt p w w'∧match r with | .error a=>e=jbk a | .ok x=>e=.returned (.string (bs x.1))∧QS w' p A n c len T x.2∧i<x.2
theorem QS.short {W:World} {p:Nat} {A:Option Addr} {n c:Nat} {len:Int} {T:List Tk} {i:Nat} (h:QS W p A n c len T i) (j:Nat):(tT T j).length≤100000:=by
  unfold tT;split
  · exact Nat.zero_le _
  · rename_i t ht;exact h.tl j t ht
section
variable {W:World} {p:Nat} {A:Option Addr} {n c:Nat} {len:Int} {T:List Tk} {i:Nat}
theorem jgk (h:QS W p A n c len T i):Calls Tryz.prog 60 #[.pointer (some ⟨p,0,none⟩)] W fun e w' =>
    e=.returned (.agg #[.int .i64 (jaq T len ⟨i,none⟩),.int .i64 11])∧Below W.heap.size W w':=by
  obtain ⟨w0,hw0⟩:=jx (W.alloc (.cells #[.int .i64 0,.int .i64 0] 71));have hB:=jak (Below.refl _ W) (.cells #[.int .i64 0,.int .i64 0] 71);have hF:FltN (W.alloc (.cells #[.int .i64 0,.int .i64 0] 71)) W.heap.size (.int .i64 0) (.int .i64 0):=⟨by simp,by rw[World.cell?_alloc_mark];rfl,by rw[World.cell?_alloc_mark];rfl⟩;(have hf0:(W.alloc (.cells #[.int .i64 0,.int .i64 0] 71)).frozen? ⟨W.heap.size,0,none⟩=false:=by rw[World.frozen?_alloc_mark];simp);(have hf1:(W.alloc (.cells #[.int .i64 0,.int .i64 0] 71)).frozen? ⟨W.heap.size,1,none⟩=false:=by rw[World.frozen?_alloc_mark];simp);rw[hw0] at hF hB hf0 hf1;have HC:=jj (jf8 (h.keep hB));have HF:=jj hF;have HB:=jj hB;have HW:=jj hw0;have G0:=jj hf0;have G1:=jj hf1;clear h hF hB hw0 hf0 hf1;go_enter Tryz.func60,Tryz.ntmps60;go_wp2_with fail;rw[HW.out];(with_reducible refine HC.out.mono ?_);rintro e w1 ⟨rfl,hd⟩;have hz:=hd.below W.heap.size;obtain ⟨f0,f1,f2⟩:=HF.out;have x0:=((hd.below w0.heap.size).cell (p:=⟨W.heap.size,0,none⟩) f0).trans f1;have x1:=((hd.below w0.heap.size).cell (p:=⟨W.heap.size,1,none⟩) f0).trans f2;have g0:=((hd.below w0.heap.size).frozen (p:=⟨W.heap.size,0,none⟩) f0).trans G0.out;have g1:=((hd.below w0.heap.size).frozen (p:=⟨W.heap.size,1,none⟩) f0).trans G1.out;have hl:W.heap.size<w1.heap.size:=Nat.lt_of_lt_of_le f0 (hd.below 0).size;have HB1:=jj (HB.out.trans hz);clear hd hz HW f1 f2;go_wp2;refine bodyPost_ret (flt_box rfl _ _ W.heap.size _ _ rfl ⟨by simpa [World.setCell] using hl,?_,?_⟩) rfl ⟨rfl,(HB1.out.setCell (Nat.le_refl _) _).setCell (Nat.le_refl _) _⟩
  · rw[jbh _ _ _ _ _ (by decide)];exact World.cell?_setCell_same _ _ _ x0
  · exact World.cell?_setCell_same _ _ _ (by rw[jbh _ _ _ _ _ (by decide)];exact x1)
theorem qskip (h:QS W p A n c len T i) (x:List UInt8) (hx:x≠[]) (z:ByteArray) (hz:z=bs x) :
    Calls Tryz.prog 163 #[.pointer (some ⟨p,0,none⟩),.string z] W fun e w'=>e=.returned (.bool (jbg T i==x))∧QS w' p A n c len T (if jbg T i=x then i+1 else i)∧Bt p W w':=by
  have HC:=jj (qsees h x z hz);have H:=jj h;have hi:=h.ib;have hn6:=h.n6;obtain ⟨k0,k1,k2⟩:=h.cells;have f1:=h.st.free 1;clear hz;by_cases hq:jbg T i=x
  · have hlt:i<n:=by
      have hK:kT T i≠0:=by
        intro h0;unfold jbg at hq;rw[if_neg (by omega)] at hq;exact hx hq.symm
      have:=jl2 hK;have:=h.tks.1;omega
    rw[if_pos hq];rw[show (jbg T i==x)=true by rw[hq];simp] at HC ⊢;have HN:=jj (h.next hlt);have HB:=jj (Bt.set W p 1 (.int .i64 ((i:Int)+1)));clear h hq;go_enter Tryz.func163,Tryz.ntmps163;go_wp2_with fail;(with_reducible refine HC.out.mono ?_);rintro e w1 ⟨rfl,rfl⟩;go_wp2;go_ret;exact ⟨rfl,HN.out,HB.out⟩
  · rw[if_neg hq];rw[show (jbg T i==x)=false from beq_eq_false_iff_ne.2 hq] at HC ⊢;clear h hq;go_enter Tryz.func163,Tryz.ntmps163;go_wp2_with fail;(with_reducible refine HC.out.mono ?_);rintro e w1 ⟨rfl,rfl⟩;go_wp2;go_ret;exact ⟨rfl,H.out,Bt.refl _ _⟩
theorem jgz (h:QS W p A n c len T i) (x:List UInt8) (hx:x≠[]) (z:ByteArray) (hz:z=bs x) :
    Calls Tryz.prog 111 #[.pointer (some ⟨p,0,none⟩),.string z] W (GotU p A n c len T W i (jbx T len x i)):=by
  have HC:=jj (qskip h x hx z hz);clear hz;by_cases hq:jbg T i=x
  · rw[if_pos hq,show (jbg T i==x)=true by rw[hq];simp] at HC;rw[show jbx T len x i=.ok ((),i+1) from if_pos hq];clear h hq;go_enter Tryz.func111,Tryz.ntmps111;go_wp2_with fail;(with_reducible refine HC.out.mono ?_);rintro e w1 ⟨rfl,h1,b1⟩;have H1:=jj h1;have B1:=jj b1;clear h1 b1;go_wp2
    go_end0
    exact ⟨B1.out,rfl,H1.out,Nat.lt_succ_self _⟩
  · rw[if_neg hq,show (jbg T i==x)=false from beq_eq_false_iff_ne.2 hq] at HC;rw[show jbx T len x i=.error (jaq T len ⟨i,none⟩) from if_neg hq];clear h hq;go_enter Tryz.func111,Tryz.ntmps111;go_wp2_with fail;(with_reducible refine HC.out.mono ?_);rintro e w1 ⟨rfl,h1,b1⟩;have H1:=jj h1;have B1:=jj b1;clear h1 b1;go_wp2_with fail;(with_reducible refine (jgk H1.out).mono ?_);rintro e w2 ⟨rfl,b2⟩;have B2:=jj (B1.out.trans (Bt.of b2 p));clear b2 B1;go_wp2;exact ⟨rfl,B2.out,rfl⟩
theorem qtake (h:QS W p A n c len T i) (hlt:i<n) :
    Calls Tryz.prog 164 #[.pointer (some ⟨p,0,none⟩)] W fun e w'=>e=.returned (.string (bs (tT T i)))∧QS w' p A n c len T (i+1)∧Bt p W w':=by
  obtain ⟨hn,hnc,hcc⟩:=h.tks;have hn6:=h.n6;obtain ⟨k0,k1,k2⟩:=h.cells;have f1:=h.st.free 1;have HN:=jj (h.next hlt);have HB:=jj (Bt.set W p 1 (.int .i64 ((i:Int)+1)));obtain ⟨W2,hW2⟩:=jx (W.setCell ⟨p,1,none⟩ (.int .i64 ((i:Int)+1)));rw[hW2] at HN HB;have HW2:=jj hW2;obtain ⟨j0,j1,j2⟩:=HN.out.cells;obtain ⟨g,o,t,rfl,ht,c0,c1,c2,c3⟩:=HN.out.tk.at_ hlt;have HK:=jj (show t.text=tT T i by unfold tT;rw[ht]);obtain ⟨J,hJ⟩:∃J:Nat,i+1=J:=⟨_,rfl⟩;(have d2:(i:Int)<(n:Int):=by omega);(have d3:(0:Int)≤(i:Int):=by omega);(have d4:(J:Int) - 1=(i:Int):=by omega);rw[hJ] at j1 HN ⊢;clear h hW2 ht hJ;go_enter Tryz.func164,Tryz.ntmps164;go_wp2;rw[HW2.out];go_quiet (fail);go_wp2;go_ret;exact ⟨by rw[HK.out];rfl,HN.out.drawn (Drawn.more (Drawn.refl _) _),HB.out.drew _⟩
theorem qname (h:QS W p A n c len T i) :
    Calls Tryz.prog 112 #[.pointer (some ⟨p,0,none⟩)] W (GotT p A n c len T W i (jeb T len i)):=by
  have HC:=jj (ji5 h);have H:=jj h;by_cases hq:kT T i=1
  · (have hlt:i<n:=by have:=jl2 (T:=T) (j:=i) (by omega);have:=h.tks.1;omega);rw[hq] at HC;rw[show jeb T len i=.ok (tT T i,i+1) from if_pos hq];clear h hq;go_enter Tryz.func112,Tryz.ntmps112;go_wp2_with fail;(with_reducible refine HC.out.mono ?_);rintro e w1 ⟨rfl,rfl⟩;go_wp2_with fail;(with_reducible refine (qtake H.out hlt).mono ?_);rintro e w2 ⟨rfl,h2,b2⟩;have H2:=jj h2;have B2:=jj b2;clear h2 b2;go_wp2;go_ret;exact ⟨B2.out,rfl,H2.out,Nat.lt_succ_self _⟩
  · rw[show jeb T len i=.error (jaq T len ⟨i,none⟩) from if_neg hq];obtain ⟨K,hKe⟩:=jx (kT T i);rw[hKe] at HC hq;(have e0:(K != 1)=true:=by unfold bne;rw[beq_eq_false_iff_ne.2 hq];rfl);clear h hq hKe;go_enter Tryz.func112,Tryz.ntmps112;go_wp2_with fail;(with_reducible refine HC.out.mono ?_);rintro e w1 ⟨rfl,rfl⟩;go_wp2_with fail;(with_reducible refine (jgk H.out).mono ?_);rintro e w2 ⟨rfl,b2⟩;have B2:=jj (Bt.of b2 p);clear b2;go_wp2;exact ⟨rfl,B2.out,rfl⟩
end
end
section
open Go.RowKit
theorem bs_dot2 (x y:List UInt8):bs x++(⟨#[46]⟩++bs y)=bs (x++46 :: y):=by
  rw[show (⟨#[46]⟩:ByteArray)=bs [46] from rfl,bs_app,bs_app];simp
abbrev V5:=Value × Value × Value × Value × Value
def jin (rs:List V5):List Value:=rs.flatMap fun r=>[r.1,r.2.1,r.2.2.1,r.2.2.2.1,r.2.2.2.2]
theorem jhg (rs:List V5):(jin rs).length=rs.length*5:=by
  induction rs with
  | nil=>rfl
  | cons r rs ih=>unfold jin at ih ⊢;rw[List.flatMap_cons,List.length_append,ih,List.length_cons];simp;omega
theorem cells5_get:∀(rs:List V5) (i:Nat) (r:V5),rs[i]?=some r→(jin rs)[i*5]?=some r.1∧(jin rs)[i*5+1]?=some r.2.1∧(jin rs)[i*5+2]?=some r.2.2.1∧(jin rs)[i*5+3]?=some r.2.2.2.1∧(jin rs)[i*5+4]?=some r.2.2.2.2:=by
  intro rs
  induction rs with
  | nil=>intro i r h;simp at h
  | cons z rs ih =>
    intro i r h;have e:jin (z :: rs)=z.1 :: z.2.1 :: z.2.2.1 :: z.2.2.2.1 :: z.2.2.2.2 :: jin rs:=rfl;rw[e]
    cases i with
    | zero=>simp at h;subst h;exact ⟨rfl,rfl,rfl,rfl,rfl⟩
    | succ i =>
      simp at h;have:=ih i r h;rw[show (i+1)*5=i*5+1+1+1+1+1 by omega,show i*5+1+1+1+1+1+1=(i*5+1)+1+1+1+1+1 by omega,show i*5+1+1+1+1+1+2=(i*5+2)+1+1+1+1+1 by omega,show i*5+1+1+1+1+1+3=(i*5+3)+1+1+1+1+1 by omega,show i*5+1+1+1+1+1+4=(i*5+4)+1+1+1+1+1 by omega];exact this
theorem ownN_rows (w:World) (B:Nat) (hB:B≤w.heap.size) (rs:List V5) (xs:List Nd) (k:Nat) (hr:rs.length=k) (hx:xs.length=k) (hk:k≤1000) (cs:Array Value) (hcs:cs.toList=jin rs) (H:Nat) (hH:H=w.heap.size)
    (h:∀(i:Nat) (r:V5) (x:Nd),rs[i]?=some r→xs[i]?=some x→NdV w (fun g=>B≤g) (.agg #[r.1,r.2.1,r.2.2.1,r.2.2.2.1,r.2.2.2.2]) x):OwnN (w.alloc (.cells cs 25)) B (.slice (some ⟨H,0,none⟩) k k) xs:=by
  subst hH hx;(have hsz:cs.size=xs.length*5:=by rw[←Array.length_toList,hcs,jhg,hr]);refine ⟨jin rs,rs.map fun r=>.agg #[r.1,r.2.1,r.2.2.1,r.2.2.2.1,r.2.2.2.2],⟨by rw[jhg,hr],Or.inr ⟨w.heap.size,xs.length,cs,rfl,hB,heap_alloc_new w _,Nat.le_refl _,by unfold maxLen;omega,hsz,by rw[hcs,List.take_of_length_le (by rw[jhg,hr];omega)]⟩⟩,by simp[hr],fun i u hu=>?_,fun i u y hu hy=>?_⟩
  · rw[List.getElem?_map] at hu
    cases hi:rs[i]? with
    | none=>rw[hi] at hu;cases hu
    | some r =>
      rw[hi] at hu;cases hu;exact ⟨_,_,_,_,_,rfl,cells5_get rs i r hi⟩
  · rw[List.getElem?_map] at hu
    cases hi:rs[i]? with
    | none=>rw[hi] at hu;cases hu
    | some r =>
      rw[hi] at hu;cases hu;refine (h i r y hi hy).map (fun p _ hp=>World.cell?_alloc_lt w _ p hp) fun g hg hlt=>⟨hg,fun e=>?_⟩;simp only[Value.ownBlock,Option.some.injEq] at e;omega
theorem jjc {w:World} {B:Nat} (hB:B≤w.heap.size) {a0 a1 a2 a3 a4:Value} {x:Nd} (h:NdV w (fun g=>B≤g) (.agg #[a0,a1,a2,a3,a4]) x) (H:Nat) (hH:H=w.heap.size) :
    OwnN (w.alloc (.cells #[a0,a1,a2,a3,a4] 25)) B (.slice (some ⟨H,0,none⟩) 1 1) [x] :=
  ownN_rows w B hB [(a0,a1,a2,a3,a4)] [x] 1 rfl rfl (by decide) _ rfl H hH fun i r y hr hy=>by
    match i,hr,hy with
    | 0,hr,hy=>simp at hr hy;subst hr hy;exact h
theorem jk1 {w:World} {B:Nat} (hB:B≤w.heap.size) {a0 a1 a2 a3 a4 b0 b1 b2 b3 b4:Value} {x y:Nd} (h:NdV w (fun g=>B≤g) (.agg #[a0,a1,a2,a3,a4]) x) (h':NdV w (fun g=>B≤g) (.agg #[b0,b1,b2,b3,b4]) y) (H:Nat) (hH:H=w.heap.size) :
    OwnN (w.alloc (.cells #[a0,a1,a2,a3,a4,b0,b1,b2,b3,b4] 25)) B (.slice (some ⟨H,0,none⟩) 2 2) [x,y] :=
  ownN_rows w B hB [(a0,a1,a2,a3,a4),(b0,b1,b2,b3,b4)] [x,y] 2 rfl rfl (by decide) _ rfl H hH fun i r z hr hy=>by
    match i,hr,hy with
    | 0,hr,hy=>simp at hr hy;subst hr hy;exact h
    | 1,hr,hy=>simp at hr hy;subst hr hy;exact h'
theorem jhz {w:World} {B:Nat} (hB:B≤w.heap.size) {a0 a1 a2 a3 a4 b0 b1 b2 b3 b4 d0 d1 d2 d3 d4:Value} {x y z:Nd} (h:NdV w (fun g=>B≤g) (.agg #[a0,a1,a2,a3,a4]) x) (h':NdV w (fun g=>B≤g) (.agg #[b0,b1,b2,b3,b4]) y) (h'':NdV w (fun g=>B≤g) (.agg #[d0,d1,d2,d3,d4]) z) (H:Nat) (hH:H=w.heap.size) :
    OwnN (w.alloc (.cells #[a0,a1,a2,a3,a4,b0,b1,b2,b3,b4,d0,d1,d2,d3,d4] 25)) B (.slice (some ⟨H,0,none⟩) 3 3) [x,y,z] :=
  ownN_rows w B hB [(a0,a1,a2,a3,a4),(b0,b1,b2,b3,b4),(d0,d1,d2,d3,d4)] [x,y,z] 3 rfl rfl (by decide) _ rfl H hH fun i r q hr hy=>by
    match i,hr,hy with
    | 0,hr,hy=>simp at hr hy;subst hr hy;exact h
    | 1,hr,hy=>simp at hr hy;subst hr hy;exact h'
    | 2,hr,hy=>simp at hr hy;subst hr hy;exact h''
end
section
open Go.RowKit
theorem jfd:(Tryz.prog.info? 25).map (fun i=>(i.zero,i.size,i.bytes))=some (some (.agg #[.int .i64 0,.string ⟨#[]⟩,.int .i64 0,.int .i64 0,.slice none 0 0]),5,64):=by kernel_rfl
def GotL (p:Nat) (A:Option Addr) (n c:Nat) (len:Int) (T:List Tk) (w:World) (l:List Nd) (s':Ps) (e:Ending) (w':World):Prop :=
  ∃A' m' d',e=.returned (.slice A' m' d')∧OwnN w' w.heap.size (.slice A' m' d') l∧l.length≤n+2∧RS w' p A n c len T s'∧Bt p w w'
def CN (p:Nat) (A:Option Addr) (n c:Nat) (len:Int) (T:List Tk) (s:Ps) (x:Nd) (s':Ps):NT→Prop
  | .decl=>∀W,RS W p A n c len T s→Calls Tryz.prog 42 #[.pointer (some ⟨p,0,none⟩)] W (GotR p A n c len T W x s')
  | .classD=>∀W,RS W p A n c len T s→Calls Tryz.prog 84 #[.pointer (some ⟨p,0,none⟩)] W (GotR p A n c len T W x s')
  | .ifaceD=>∀W,RS W p A n c len T s→Calls Tryz.prog 85 #[.pointer (some ⟨p,0,none⟩)] W (GotR p A n c len T W x s')
  | .funcD b=>∀W,RS W p A n c len T s→Calls Tryz.prog 86 #[.pointer (some ⟨p,0,none⟩),.bool b] W (GotR p A n c len T W x s')
  | .varD=>∀W,RS W p A n c len T s→Calls Tryz.prog 78 #[.pointer (some ⟨p,0,none⟩)] W (GotR p A n c len T W x s')
  | .types=>∀W,RS W p A n c len T s→Calls Tryz.prog 132 #[.pointer (some ⟨p,0,none⟩)] W (GotL p A n c len T W x.kids s')
  | .block=>∀W,RS W p A n c len T s→Calls Tryz.prog 79 #[.pointer (some ⟨p,0,none⟩)] W (GotR p A n c len T W x s')
  | .stmt=>∀W,RS W p A n c len T s→Calls Tryz.prog 41 #[.pointer (some ⟨p,0,none⟩)] W (GotR p A n c len T W x s')
  | .cond=>∀W,RS W p A n c len T s→Calls Tryz.prog 81 #[.pointer (some ⟨p,0,none⟩)] W (GotR p A n c len T W x s')
  | .expr l=>l≤6→∀z:Int,z=(l:Int)→∀W,RS W p A n c len T s→Calls Tryz.prog 40 #[.pointer (some ⟨p,0,none⟩),.int .i64 z] W (GotR p A n c len T W x s')
  | .unary=>∀W,RS W p A n c len T s→Calls Tryz.prog 74 #[.pointer (some ⟨p,0,none⟩)] W (GotR p A n c len T W x s')
  | .args=>∀W,RS W p A n c len T s→Calls Tryz.prog 130 #[.pointer (some ⟨p,0,none⟩)] W (GotL p A n c len T W x.kids s')
  | .primary=>∀W,RS W p A n c len T s→Calls Tryz.prog 129 #[.pointer (some ⟨p,0,none⟩)] W (GotR p A n c len T W x s')
  | _=>True
section
variable {p:Nat} {A:Option Addr} {n c:Nat} {len:Int} {T:List Tk} {f:Nat}
theorem jba (w:World):Below w.heap.size w w.drew:=Drawn.below ⟨1,rfl⟩ _
theorem OwnN.sl {W:World} {B:Nat} {A:Option Addr} {m d:Nat} {xs:List Nd} (h:OwnN W B (.slice A m d) xs):NdS W (fun g=>B≤g) A m d xs:=by
  obtain ⟨_,_,_,e,hn⟩:=h.nds;cases e;exact hn
theorem NdS.listV {W:World} {ok:Nat→Prop} {A:Option Addr} {m d:Nat} {l:List Nd} (h:NdS W ok A m d l) (a:Int) :
    NdV W ok (.agg #[.int .i64 24,.string ⟨#[]⟩,.int .i64 (jbm l a).at_,.int .i64 (jbm l a).en,.slice A m d]) (jbm l a):=h.node _ _ _ _
theorem OwnN.apart {W:World} {B:Nat} {v:Value} {xs:List Nd} (h:OwnN W B v xs):∀g,W.heap.size≤g→v.ownBlock≠some g:=fun g hg e=>by
  obtain ⟨cs,vs,h1,-⟩:=h
  have:=(World.ownsRow.lt h1 g e).2
  omega
theorem NdV.fresh {W X:World} {B:Nat} {v u:Value} {xs:List Nd} {r:Nd} (h:NdV X (fun g=>W.heap.size≤g) u r) (ho:OwnN W B v xs) (hB:B≤W.heap.size):NdV X (fun g=>B≤g∧v.ownBlock≠some g) u r :=
  h.map (fun _ _ _=>rfl) fun g hg _=>⟨Nat.le_trans hB hg,ho.apart g hg⟩
def IH (p:Nat) (A:Option Addr) (n c:Nat) (len:Int) (T:List Tk) (f:Nat):Prop:=∀(nt:NT) (s:Ps) (x:Nd) (s':Ps),jaw T len f nt s=some (x,s')→CN p A n c len T s x s' nt
end
end
section
open Go.RowKit
def jgh (p:Nat) (A:Option Addr) (n c:Nat) (len:Int) (T:List Tk) (w:World) (i:Nat) (r:Oc Nd) (e:Ending) (w':World):Prop :=
  Bt p w w'∧match r with
    | .error a=>e=jbk a
    | .ok x=>(∃A' m' d',e=.returned (.agg #[.int .i64 x.1.kind,.string (bs x.1.text),.int .i64 x.1.at_,.int .i64 x.1.en,.slice A' m' d']) ∧
        NdV w' (fun g=>w.heap.size≤g) (.agg #[.int .i64 x.1.kind,.string (bs x.1.text),.int .i64 x.1.at_,.int .i64 x.1.en,.slice A' m' d']) x.1)∧QS w' p A n c len T x.2∧i≤x.2
def GotW (p:Nat) (A:Option Addr) (n c:Nat) (len:Int) (T:List Tk) (w:World) (i:Nat) (r:Oc (List Nd)) (e:Ending) (w':World):Prop :=
  Bt p w w'∧match r with
    | .error a=>e=jbk a
    | .ok x=>(∃A' m' d',e=.returned (.slice A' m' d')∧OwnN w' w.heap.size (.slice A' m' d') x.1)∧QS w' p A n c len T x.2∧i+x.1.length≤x.2
structure QW (p:Nat) (A:Option Addr) (n c:Nat) (len:Int) (T:List Tk) (w W:World) (i:Nat):Prop where
  rs:QS W p A n c len T i
  bt:Bt p w W
  size:w.heap.size+1≤W.heap.size
  lt:p<w.heap.size
  box:FiveF W w.heap.size (.int .i64 0) (.string ⟨#[]⟩) (.int .i64 0) (.int .i64 0) (.slice none 0 0)
section
variable {p:Nat} {w W W':World} {A:Option Addr} {n c:Nat} {len:Int} {T:List Tk} {i j:Nat}
theorem QW.start (h:QS w p A n c len T i):QW p A n c len T w (w.alloc (.cells #[.int .i64 0,.string ⟨#[]⟩,.int .i64 0,.int .i64 0,.slice none 0 0] 25)) i :=
  ⟨h.keep (jak (Below.refl _ w) _),(Bt.refl p w).more _,by simp,h.st.lt,jae w _ _ _ _ _ _⟩
theorem QW.next (h:QW p A n c len T w W i) (hs:QS W' p A n c len T j) (hb:Bt p W W'):QW p A n c len T w W' j :=
  ⟨hs,h.bt.trans hb,Nat.le_trans h.size hb.size,h.lt,h.box.bt hb (by have:=h.lt;omega)⟩
theorem QW.keep (h:QW p A n c len T w W i) (hb:Below W.heap.size W W'):QW p A n c len T w W' i:=h.next (h.rs.keep hb) (Bt.of hb p)
theorem QW.drawn (h:QW p A n c len T w W i) (hd:Drawn W W'):QW p A n c len T w W' i:=h.keep (hd.below _)
theorem QW.more (h:QW p A n c len T w W i) (o:Obj):QW p A n c len T w (W.alloc o) i:=h.keep (jak (Below.refl _ W) o)
theorem QW.push (h:QW p A n c len T w W i) (hb:Below (w.heap.size+1) W W'):QW p A n c len T w W' i :=
  ⟨h.rs.at_ hb (by have:=h.lt;omega),h.bt.then_below hb (Nat.le_succ _),Nat.le_trans h.size hb.size,h.lt,h.box.at_ hb (Nat.lt_succ_self _)⟩
theorem QW.fin (h:QW p A n c len T w W j) {c0 c1 c2 c3 c4:Value} {x:Nd} (hij:i≤j) (hx:NdV W (fun g=>w.heap.size+1≤g) (.agg #[c0,c1,c2,c3,c4]) x) :
    jgh p A n c len T w i (.ok (x,j)) (.returned (.agg #[c0,c1,c2,c3,c4])) (jex W w.heap.size c0 c1 c2 c3 c4):=by
  obtain ⟨rfl,rfl,rfl,rfl,A',m',d',rfl,-⟩:=hx.cells;exact ⟨jj1 h.bt (Nat.le_refl _),⟨A',m',d',rfl,jnf hx (Nat.lt_succ_self _) _ (Nat.le_succ _)⟩,h.rs.at_ (jaj (Below.refl w.heap.size W) (Nat.le_refl _)) h.lt,hij⟩
end
section
variable {W:World} {p:Nat} {A:Option Addr} {n c:Nat} {len:Int} {T:List Tk} {i:Nat}
theorem jhi (h:QS W p A n c len T i) (h0:0<i) (k a:Int) (z:ByteArray) (A':Option Addr) (m' d':Nat) :
    Calls Tryz.prog 113 #[.pointer (some ⟨p,0,none⟩),.int .i64 k,.string z,.int .i64 a,.slice A' m' d'] W fun e w' =>
      e=.returned (.agg #[.int .i64 k,.string z,.int .i64 a,.int .i64 (jao T ⟨i,none⟩),.slice A' m' d'])∧Below W.heap.size W w':=by
  obtain ⟨w0,hw0⟩:=jx (W.alloc (.cells #[.int .i64 0,.string ⟨#[]⟩,.int .i64 0,.int .i64 0,.slice none 0 0] 25));have hF:=jae W (.int .i64 0) (.string ⟨#[]⟩) (.int .i64 0) (.int .i64 0) (.slice none 0 0) 25;have hB:=jak (Below.refl _ W) (.cells #[.int .i64 0,.string ⟨#[]⟩,.int .i64 0,.int .i64 0,.slice none 0 0] 25);rw[hw0] at hF hB;have HC:=jj (qend (h.keep hB) h0);have HF:=jj hF;have HB:=jj hB;have HW:=jj hw0;clear h hF hB hw0;go_enter Tryz.func113,Tryz.ntmps113;go_wp2_with fail;rw[HW.out];(with_reducible refine HC.out.mono ?_);rintro e w1 ⟨rfl,hd⟩;have F1:=HF.out.keep (hd.below _);have HF1:=jj F1;have HB1:=jj (HB.out.trans (hd.below W.heap.size));obtain ⟨⟨-,x0,x1,x2,x3,x4⟩,g0,g1,g2,g3,g4⟩:=F1;clear hd HW;go_wp2;exact bodyPost_ret (jag rfl _ _ W.heap.size _ _ _ _ _ rfl (ja3 HF1.out _ _ _ _ _)) rfl ⟨rfl,jaj HB1.out (Nat.le_refl _)⟩
def leafN (T:List Tk) (len:Int) (k:Int) (i:Nat):Nd:=.mk k (tT T i) (jaq T len ⟨i,none⟩) (jao T ⟨i+1,none⟩) []
theorem qleaf (h:QS W p A n c len T i) (hlt:i<n) (k:Int) :
    Calls Tryz.prog 201 #[.pointer (some ⟨p,0,none⟩),.int .i64 k] W (jgh p A n c len T W i (.ok (leafN T len k i,i+1))):=by
  have h0:=QW.start h;obtain ⟨w0,hw0⟩:=jx (W.alloc (.cells #[.int .i64 0,.string ⟨#[]⟩,.int .i64 0,.int .i64 0,.slice none 0 0] 25));rw[hw0] at h0;have G0:=jj h0;have HW:=jj hw0;clear h h0 hw0;go_enter Tryz.func201,Tryz.ntmps201;go_wp2_with fail;rw[HW.out];(with_reducible refine (jf8 G0.out.rs).mono ?_);rintro e w1 ⟨rfl,hd⟩;have G1:=jj (G0.out.drawn hd);clear hd G0 HW;go_wp2_with fail;(with_reducible refine (qtake G1.out.rs hlt).mono ?_);rintro e w2 ⟨rfl,h2,b2⟩;have G2:=jj (G1.out.next h2 b2);clear h2 b2 G1;go_wp2_with fail;(with_reducible refine (jhi G2.out.rs (Nat.succ_pos i) _ _ _ _ _ _).mono ?_);rintro e w3 ⟨rfl,b3⟩;have G3:=jj (G2.out.keep b3);clear b3 G2;obtain ⟨⟨-,x0,x1,x2,x3,x4⟩,g0,g1,g2,g3,g4⟩:=G3.out.box;go_wp2;exact bodyPost_ret (jag rfl _ _ W.heap.size _ _ _ _ _ rfl (ja3 G3.out.box _ _ _ _ _)) rfl (G3.out.fin (Nat.le_succ i) (NdS.nil.node _ _ _ _))
end
theorem set23 {w:World} {b:Nat} {c0 c1 c2 c3 c4:Value} (h:FiveF w b c0 c1 c2 c3 c4) (u v:Value):FiveF ((w.setCell ⟨b,2,none⟩ u).setCell ⟨b,3,none⟩ v) b c0 c1 u v c4:=by
  obtain ⟨⟨h0,h1,h2,h3,h4,h5⟩,f0,f1,f2,f3,f4⟩:=h;have key:∀(W:World) (j k:Nat) (u:Value),(W.setCell ⟨b,j,none⟩ u).frozen? ⟨b,k,none⟩=W.frozen? ⟨b,k,none⟩:=fun W j k u=>World.frozen?_setCell _ _ _ _;refine ⟨⟨by simpa [World.setCell] using h0,?_,?_,?_,?_,?_⟩,?_,?_,?_,?_,?_⟩
  · rw[jbh _ _ _ _ _ (by decide),jbh _ _ _ _ _ (by decide)];exact h1
  · rw[jbh _ _ _ _ _ (by decide),jbh _ _ _ _ _ (by decide)];exact h2
  · rw[jbh _ _ _ _ _ (by decide)];exact World.cell?_setCell_same _ _ _ h3
  · exact World.cell?_setCell_same _ _ _ (by rw[jbh _ _ _ _ _ (by decide)];exact h4)
  · rw[jbh _ _ _ _ _ (by decide),jbh _ _ _ _ _ (by decide)];exact h5
  all_goals (rw[key,key];assumption)
theorem qlist {W:World} {ok:Nat→Prop} {A:Option Addr} {m d:Nat} {l:List Nd} (h:NdS W ok A m d l) (hm6:m≤4000000) (a:Int) :
    Calls Tryz.prog 173 #[.int .i64 a,.slice A m d] W fun e w' =>
      e=.returned (.agg #[.int .i64 24,.string ⟨#[]⟩,.int .i64 (jbm l a).at_,.int .i64 (jbm l a).en,.slice A m d])∧Below W.heap.size W w':=by
  obtain ⟨hl,hmd,hdd⟩:=h.len
  cases m with
  | zero =>
    obtain rfl:l=[]:=List.eq_nil_of_length_eq_zero hl;have HE:=jj (show (jbm [] a).at_=a∧(jbm [] a).en=a from ⟨rfl,rfl⟩);have F0:=jae W (.int .i64 0) (.string ⟨#[]⟩) (.int .i64 0) (.int .i64 0) (.slice none 0 0) 25;have B0:=jak (jak (Below.refl _ W) (.cells #[.int .i64 0,.string ⟨#[]⟩,.int .i64 0,.int .i64 0,.slice none 0 0] 25)) (.cells #[.int .i64 24,.string ⟨#[]⟩,.int .i64 a,.int .i64 a,.slice A 0 d] 25);have F1:=jae (W.alloc (.cells #[.int .i64 0,.string ⟨#[]⟩,.int .i64 0,.int .i64 0,.slice none 0 0] 25)) (.int .i64 24) (.string ⟨#[]⟩) (.int .i64 a) (.int .i64 a) (.slice A 0 d) 25;rw[show (W.alloc (.cells #[.int .i64 0,.string ⟨#[]⟩,.int .i64 0,.int .i64 0,.slice none 0 0] 25)).heap.size=W.heap.size+1 by simp] at F1;have F0:=F0.keep (jak (Below.refl _ _) (.cells #[.int .i64 24,.string ⟨#[]⟩,.int .i64 a,.int .i64 a,.slice A 0 d] 25));obtain ⟨w0,hw0⟩:=jx ((W.alloc (.cells #[.int .i64 0,.string ⟨#[]⟩,.int .i64 0,.int .i64 0,.slice none 0 0] 25)).alloc (.cells #[.int .i64 24,.string ⟨#[]⟩,.int .i64 a,.int .i64 a,.slice A 0 d] 25));rw[hw0] at F0 F1 B0;have HW:=jj hw0;have B0:=jj B0;have F0:=jj F0;obtain ⟨⟨-,y0,y1,y2,y3,y4⟩,-⟩:=F1;obtain ⟨⟨-,x0,x1,x2,x3,x4⟩,g0,g1,g2,g3,g4⟩:=F0.out;clear h hl hw0;rw[HE.out.1,HE.out.2];go_enter Tryz.func173,Tryz.ntmps173;go_upto_region 2 with fail;rw[HW.out];go_wp2;exact bodyPost_ret (jag rfl _ _ W.heap.size _ _ _ _ _ rfl (ja3 F0.out _ _ _ _ _)) rfl ⟨rfl,jaj B0.out (Nat.le_refl _)⟩
  | succ j =>
    obtain ⟨g,o,y,q,r,t,rfl,hy,hk,e0,e1,e2,e3,e4⟩:=h.at_ (Nat.succ_pos j);obtain ⟨g',o',y',q',r',t',he,hy',hk',e0',e1',e2',e3',e4'⟩:=h.at_ (Nat.lt_succ_self j);cases he;rw[Nat.zero_mul,Nat.add_zero] at e2;have E2:=cell_2 e2;have E3:=cell_2 e3'
    have HE:=jj (show (jbm l a).at_=y.at_∧(jbm l a).en=y'.en by
      have h1:l.getLast?=some y':=by rw[List.getLast?_eq_getElem?,hl];exact hy'
      cases l with
      | nil=>simp at hy
      | cons z l =>
        simp at hy;subst hy;refine ⟨rfl,?_⟩;show (match (z :: l).getLast? with | none=>a | some n=>n.en)=y'.en
        rw[h1])
    obtain ⟨M,hM⟩:=jx (j+1);(have d1:(M:Int) - 1=(j:Int):=by omega);(have d2:(j:Int)<(M:Int):=by omega);(have d3:(0:Int)<(M:Int):=by omega);(have d4:(0:Int)≤(j:Int):=by omega);have d5:decide ((M:Int) > 0)=true:=decide_eq_true (by omega);have hgW:g<W.heap.size:=World.block_lt_of_cell? _ _ e2;have F0:=jae W (.int .i64 0) (.string ⟨#[]⟩) (.int .i64 0) (.int .i64 0) (.slice none 0 0) 25;have B0:=jak (jak (Below.refl _ W) (.cells #[.int .i64 0,.string ⟨#[]⟩,.int .i64 0,.int .i64 0,.slice none 0 0] 25)) (.cells #[.int .i64 24,.string ⟨#[]⟩,.int .i64 a,.int .i64 a,.slice (some ⟨g,o,none⟩) (j+1) d] 25);have F1:=jae (W.alloc (.cells #[.int .i64 0,.string ⟨#[]⟩,.int .i64 0,.int .i64 0,.slice none 0 0] 25)) (.int .i64 24) (.string ⟨#[]⟩) (.int .i64 a) (.int .i64 a) (.slice (some ⟨g,o,none⟩) (j+1) d) 25;rw[show (W.alloc (.cells #[.int .i64 0,.string ⟨#[]⟩,.int .i64 0,.int .i64 0,.slice none 0 0] 25)).heap.size=W.heap.size+1 by simp] at F1;have F0:=F0.keep (jak (Below.refl _ _) (.cells #[.int .i64 24,.string ⟨#[]⟩,.int .i64 a,.int .i64 a,.slice (some ⟨g,o,none⟩) (j+1) d] 25));obtain ⟨w0,hw0⟩:=jx ((W.alloc (.cells #[.int .i64 0,.string ⟨#[]⟩,.int .i64 0,.int .i64 0,.slice none 0 0] 25)).alloc (.cells #[.int .i64 24,.string ⟨#[]⟩,.int .i64 a,.int .i64 a,.slice (some ⟨g,o,none⟩) (j+1) d] 25));have e2:=E2 (.cells #[.int .i64 0,.string ⟨#[]⟩,.int .i64 0,.int .i64 0,.slice none 0 0] 25) (.cells #[.int .i64 24,.string ⟨#[]⟩,.int .i64 a,.int .i64 a,.slice (some ⟨g,o,none⟩) (j+1) d] 25);have e3:=E3 (.cells #[.int .i64 0,.string ⟨#[]⟩,.int .i64 0,.int .i64 0,.slice none 0 0] 25) (.cells #[.int .i64 24,.string ⟨#[]⟩,.int .i64 a,.int .i64 a,.slice (some ⟨g,o,none⟩) (j+1) d] 25);rw[hw0] at F0 F1 B0 e2 e3;rw[hM] at hmd hm6 hw0 F1 ⊢;obtain ⟨b1,hb1⟩:=jx (W.heap.size+1);rw[hb1] at F1;have late:∀v,(w0.setCell ⟨b1,2,none⟩ v).cell? ⟨g,o+j*5+3,none⟩=some (.int .i64 y'.en):=fun v=>(World.cell?_setCell_other _ _ _ _ (fun e=>by have:=congrArg Addr.block e;dsimp only at this;omega)).trans e3;have HW:=jj hw0;have HB1:=jj hb1;have B0:=jj B0;have F0:=jj F0;have F1:=jj F1;obtain ⟨⟨-,x0,x1,x2,x3,x4⟩,g0,g1,g2,g3,g4⟩:=F1.out;(have hWb:W.heap.size<b1:=by omega);rw[HE.out.1,HE.out.2];clear h hl hy hk hy' hk' e0 e1 e4 e0' e1' e2' e3' e4' hM HE hw0 hb1 E2 E3;go_enter Tryz.func173,Tryz.ntmps173;go_wp2_with fail;rw[HW.out,HB1.out];go_region;have hF2:=(set23 F1.out (.int .i64 y.at_) (.int .i64 y'.en)).keep (jba _);have hF3:=(F0.out.bt ((Bt.set w0 b1 2 (.int .i64 y.at_)).trans (Bt.set _ b1 3 (.int .i64 y'.en))) (by omega)).keep (jba _);have hB3:=((B0.out.setCell (p:=⟨b1,2,none⟩) (Nat.le_of_lt hWb) (.int .i64 y.at_)).setCell (p:=⟨b1,3,none⟩) (Nat.le_of_lt hWb) (.int .i64 y'.en)).trans ((jba _).mono (by simp[World.setCell];exact Nat.le_of_lt (Nat.lt_of_lt_of_le F0.out.1.1 (Nat.le_refl _))));obtain ⟨w1,hw1⟩:=jx (((w0.setCell ⟨b1,2,none⟩ (.int .i64 y.at_)).setCell ⟨b1,3,none⟩ (.int .i64 y'.en)).drew);rw[hw1] at hF2 hF3 hB3;show Exit.then _ _ _ _ (((w0.setCell ⟨b1,2,none⟩ (.int .i64 y.at_)).setCell ⟨b1,3,none⟩ (.int .i64 y'.en)).drew);rw[hw1];have F2:=jj hF2;have F3:=jj hF3;have B3:=jj hB3;clear hF2 hF3 hB3 hw1 x0 x1 x2 x3 x4 g0 g1 g2 g3 g4 late e2 e3 F0 F1 B0 HW HB1;obtain ⟨⟨-,y0,y1,y2,y3,y4⟩,-⟩:=F2.out;obtain ⟨⟨-,x0,x1,x2,x3,x4⟩,g0,g1,g2,g3,g4⟩:=F3.out;go_wp2;exact bodyPost_ret (jag rfl _ _ W.heap.size _ _ _ _ _ rfl (ja3 F3.out _ _ _ _ _)) rfl ⟨rfl,jaj B3.out (Nat.le_refl _)⟩
end
end Go.Proofs.YtonoklmobocikaaGreatDoor
