/- Lemmas. -/
import Derived.Test.YtonoklmobocikaaGreatDoorK33
set_option linter.unusedVariables false
set_option linter.unusedSimpArgs false
set_option maxRecDepth 20000
set_option maxHeartbeats 6400000
namespace Go.Proofs.YtonoklmobocikaaGreatDoor
section
open Go.RowKit
open Go.RowKit
open Go.RowKit
open Go.RowKit
open Go.RowKit
open Go.RowKit
theorem Drawn.cell {w w':World} (h:Drawn w w') (a:Addr):w'.cell? a=w.cell? a:=by
  obtain ⟨k,rfl⟩:=h;rfl
open Go.RowKit
open Go.RowKit
open Go.RowKit
open Go.RowKit
end
section
open Go.RowKit
open Go.Lib (byteCells strCells)
open Go.ChangeShapes (block_add)
open Go.Deep (add_add)
theorem jfv {P:Program} {f:FuncId} {args:Array Value} {w:World} {n:Nat} {v:Value}
    (h:Calls P f args (w.drewN n) fun e w'=>e=.returned v∧Drawn (w.drewN n) w'):Calls P f args (w.drewN n) fun e w''=>e=.returned v∧∃m,w''=w.drewN m :=
  h.mono fun _ _ ⟨he,m,hm⟩=>⟨he,n+m,by rw[hm];simp⟩
end
section
section
variable (T:List Tk) (len:Int)
def jbu (k:Int) (x:List UInt8) (s:Ps):Ps:=if isP T k x s then jbb s else s
variable (rec:NT→Ps→Got)
end
end
section
open Go.RowKit
open Go.ChangeShapes (block_add)
theorem OwnN.node {W:World} {B:Nat} {v:Value} {xs:List Nd} (h:OwnN W B v xs) (k a e:Int) (x:List UInt8):NdV W (fun g=>B≤g) (.agg #[.int .i64 k,.string (bs x),.int .i64 a,.int .i64 e,v]) (.mk k x a e xs):=by
  obtain ⟨A,m,d,vs,rfl,hm,hvs,hr⟩:=h.s;exact .mk k a e x A m d vs xs hvs hm.symm hr
end
section
open Go.RowKit
open Go.ChangeShapes (block_add)
section
variable {ty:TypeId} {W W':World} {p:Nat} {cs:Array Value} {A:Option Addr} {n c:Nat} {l:List Tk}
theorem PSt.drawn (h:PSt ty W p cs A n c l) (hd:Drawn W W'):PSt ty W' p cs A n c l:=h.keep (hd.below _)
end
end
section
open Go.RowKit
section
variable {W W':World} {p:Nat} {A:Option Addr} {n c:Nat} {len:Int} {T:List Tk} {s s':Ps}
theorem RS.cells (h:RS W p A n c len T s):W.cell? ⟨p,0,none⟩=some (.slice A n c)∧W.cell? ⟨p,1,none⟩=some (.int .i64 (s.i:Int))∧W.cell? ⟨p,2,none⟩=some (.int .i64 len)∧W.cell? ⟨p,3,none⟩=some (.bool s.bad.isSome)∧W.cell? ⟨p,4,none⟩=some (.int .i64 (s.bad.getD 0)) :=
  ⟨h.st.cell rfl,h.st.cell rfl,h.st.cell rfl,h.st.cell rfl,h.st.cell rfl⟩
theorem RS.frees (h:RS W p A n c len T s):W.frozen? ⟨p,1,none⟩=false∧W.frozen? ⟨p,3,none⟩=false∧W.frozen? ⟨p,4,none⟩=false:=⟨h.st.free 1,h.st.free 3,h.st.free 4⟩
theorem RS.tks (h:RS W p A n c len T s):T.length=n∧n≤c∧c≤9223372036854775807:=h.st.tks
theorem RS.tk (h:RS W p A n c len T s):TkP W p A n c T:=h.st.2
theorem RS.keep (h:RS W p A n c len T s) (hb:Below W.heap.size W W'):RS W' p A n c len T s:=⟨h.st.keep hb,h.ib,h.n6,h.tl⟩
theorem RS.drawn (h:RS W p A n c len T s) (hd:Drawn W W'):RS W' p A n c len T s:=h.keep (hd.below _)
theorem RS.at_ {B:Nat} (h:RS W p A n c len T s) (hb:Below B W W') (hB:p<B):RS W' p A n c len T s:=⟨h.st.at_ hb hB,h.ib,h.n6,h.tl⟩
theorem RS.next (h:RS W p A n c len T s) (hlt:s.i<n):RS (W.setCell ⟨p,1,none⟩ (.int .i64 ((s.i:Int)+1))) p A n c len T (jbb s) :=
  ⟨by have:=h.st.set 1 (.int .i64 ((s.i:Int)+1));exact this,hlt,h.n6,h.tl⟩
theorem RS.fail (h:RS W p A n c len T s) (hb:s.bad=none) (v:Int) (hv:v=jaq T len s):RS ((W.setCell ⟨p,3,none⟩ (.bool true)).setCell ⟨p,4,none⟩ (.int .i64 v)) p A n c len T (jgg T len s):=by
  subst hv;have:=(h.st.set 3 (.bool true)).set 4 (.int .i64 (jaq T len s));(have e:jgg T len s=⟨s.i,some (jaq T len s)⟩:=by unfold jgg;rw[hb];rfl);rw[e];exact ⟨this,h.ib,h.n6,h.tl⟩
end
theorem jgy {p:Nat} {A:Option Addr} {n c:Nat} {len:Int} {T:List Tk} {s:Ps} {W:World} (h:RS W p A n c len T s) :
    Calls Tryz.prog 76 #[.pointer (some ⟨p,0,none⟩)] W fun e w'=>e=.returned (.int .i64 (jbi T s))∧Drawn W w':=by
  obtain ⟨k0,k1,k2,k3,k4⟩:=h.cells;obtain ⟨hn,hnc,hcc⟩:=h.tks;have HT:=jj h.tk;have hi:=h.ib;have hn6:=h.n6;have Hn:=jj hn;obtain ⟨i,b⟩:=s;dsimp only at k1 k3 k4 hi
  cases b with
  | some b =>
    have HK:=jj (show jbi T ⟨i,some b⟩=0 from rfl);simp only[Option.isSome] at k3;clear h hn;go_enter Tryz.func76,Tryz.ntmps76;go_wp2;go_quiet (fail);go_wp2;go_ret;exact ⟨jck HK.out.symm,Drawn.more (Drawn.refl _) _⟩
  | none =>
    simp only[Option.isSome] at k3;by_cases hlt:i<n
    · obtain ⟨g,o,t,rfl,ht,c0,c1,c2,c3⟩:=HT.out.at_ hlt;have HK:=jj (show t.kind=jbi T ⟨i,none⟩ by unfold jbi;simp[ht]);have d1:decide ((i:Int)≥(n:Int))=false:=decide_eq_false (by omega);(have d2:(i:Int)<(n:Int):=by omega);(have d3:(0:Int)≤(i:Int):=by omega);clear h hn ht;go_enter Tryz.func76,Tryz.ntmps76;go_wp2;go_quiet (fail);go_wp2;go_quiet (fail);go_wp2;go_ret;exact ⟨jck HK.out,Drawn.more (Drawn.more (Drawn.refl _) _) _⟩
    · have HK:=jj (show jbi T ⟨i,none⟩=0 by unfold jbi;simp[out_in hn hlt]);have d1:decide ((i:Int)≥(n:Int))=true:=decide_eq_true (by omega);clear h hn;go_enter Tryz.func76,Tryz.ntmps76;go_wp2;go_quiet (fail);go_wp2;go_ret;exact ⟨jck HK.out.symm,Drawn.more (Drawn.refl _) _⟩
theorem jha {p:Nat} {A:Option Addr} {n c:Nat} {len:Int} {T:List Tk} {s:Ps} {W:World} (h:RS W p A n c len T s) :
    Calls Tryz.prog 65 #[.pointer (some ⟨p,0,none⟩)] W fun e w'=>e=.returned (.int .i64 (jaq T len s))∧Drawn W w':=by
  obtain ⟨k0,k1,k2,k3,k4⟩:=h.cells;obtain ⟨hn,hnc,hcc⟩:=h.tks;have HT:=jj h.tk;have hi:=h.ib;have hn6:=h.n6;obtain ⟨i,b⟩:=s;dsimp only at k1 k3 k4 hi;by_cases hlt:i<n
  · obtain ⟨g,o,t,rfl,ht,c0,c1,c2,c3⟩:=HT.out.at_ hlt;have HK:=jj (show t.at_=jaq T len ⟨i,b⟩ by unfold jaq;simp[ht]);have d1:decide ((i:Int)<(n:Int))=true:=decide_eq_true (by omega);(have d2:(i:Int)<(n:Int):=by omega);(have d3:(0:Int)≤(i:Int):=by omega);clear h hn ht;go_enter Tryz.func65,Tryz.ntmps65;go_wp2;go_quiet (fail);go_wp2;go_quiet (fail);go_wp2;go_ret;exact ⟨jck HK.out,Drawn.more (Drawn.more (Drawn.refl _) _) _⟩
  · have HK:=jj (show len=jaq T len ⟨i,b⟩ by unfold jaq;simp[out_in hn hlt]);have d1:decide ((i:Int)<(n:Int))=false:=decide_eq_false (by omega);clear h hn;go_enter Tryz.func65,Tryz.ntmps65;go_wp2;go_quiet (fail);go_wp2;go_ret;exact ⟨jck HK.out,Drawn.more (Drawn.refl _) _⟩
theorem jju {p:Nat} {A:Option Addr} {n c:Nat} {len:Int} {T:List Tk} {s:Ps} {W:World} (h:RS W p A n c len T s) :
    Calls Tryz.prog 82 #[.pointer (some ⟨p,0,none⟩)] W fun e w'=>e=.returned (.int .i64 (jao T s))∧Drawn W w':=by
  obtain ⟨k0,k1,k2,k3,k4⟩:=h.cells;obtain ⟨hn,hnc,hcc⟩:=h.tks;have HT:=jj h.tk;have hi:=h.ib;have hn6:=h.n6;obtain ⟨i,b⟩:=s;dsimp only at k1 k3 k4 hi
  cases i with
  | zero =>
    have HK:=jj (show 0=jao T ⟨0,b⟩ from rfl);clear h hn;go_enter Tryz.func82,Tryz.ntmps82;go_wp2;go_ret;exact ⟨jck HK.out,Drawn.refl _⟩
  | succ j =>
    (have hlt:j<n:=by omega);obtain ⟨g,o,t,rfl,ht,c0,c1,c2,c3⟩:=HT.out.at_ hlt;have HK:=jj (show t.en=jao T ⟨j+1,b⟩ by unfold jao;simp[ht]);obtain ⟨J,hJ⟩:=jx (j+1);have d0:((J:Int)==0)=false:=beq_eq_false_iff_ne.2 (by omega);(have d1:(J:Int) - 1=(j:Int):=by omega);(have d2:(j:Int)<(n:Int):=by omega);(have d3:(0:Int)≤(j:Int):=by omega);rw[hJ] at k1;clear h hn ht hJ hi;go_enter Tryz.func82,Tryz.ntmps82;go_wp2;go_quiet (fail);go_wp2;go_ret;exact ⟨jck HK.out,Drawn.more (Drawn.refl _) _⟩
theorem rfail {p:Nat} {A:Option Addr} {n c:Nat} {len:Int} {T:List Tk} {s:Ps} {W:World} (h:RS W p A n c len T s) :
    Calls Tryz.prog 69 #[.pointer (some ⟨p,0,none⟩)] W fun e w'=>e=.returned (.tuple #[])∧RS w' p A n c len T (jgg T len s)∧Bt p W w':=by
  obtain ⟨k0,k1,k2,k3,k4⟩:=h.cells;obtain ⟨f1,f3,f4⟩:=h.frees;obtain ⟨hn,hnc,hcc⟩:=h.tks;have HT:=jj h.tk;have hi:=h.ib;have hn6:=h.n6;have H:=jj h;obtain ⟨i,b⟩:=s;dsimp only at k1 k3 k4 hi
  cases b with
  | some b =>
    simp only[Option.isSome] at k3;clear h hn;go_enter Tryz.func69,Tryz.ntmps69;go_wp2;exact bodyPost_ret (results_none rfl _ _ _) rfl ⟨rfl,H.out,Bt.refl _ _⟩
  | none =>
    simp only[Option.isSome] at k3;by_cases hlt:i<n
    · obtain ⟨g,o,t,rfl,ht,c0,c1,c2,c3⟩:=HT.out.at_ hlt;have HK:=jj (show t.at_=jaq T len ⟨i,none⟩ by unfold jaq;simp[ht]);have d1:decide ((i:Int)<(n:Int))=true:=decide_eq_true (by omega);(have d2:(i:Int)<(n:Int):=by omega);(have d3:(0:Int)≤(i:Int):=by omega);have hK:=HK.out;obtain ⟨W1,hW1⟩:=jx ((W.setCell ⟨p,3,none⟩ (.bool true)).setCell ⟨p,4,none⟩ (.int .i64 len))
      have P1:PSt 50 W1 p #[.slice (some ⟨g,o,none⟩) n c,.int .i64 (i:Int),.int .i64 len,.bool true,.int .i64 len] (some ⟨g,o,none⟩) n c T:=by
        rw[←hW1];exact (H.out.st.set 3 (.bool true)).set 4 (.int .i64 len)
      obtain ⟨g',o',t',e1,e2,e3,e4,e5,e6⟩:=P1.2.at_ hlt;cases e1;(have e7:t'=t:=by rw[ht] at e2;injection e2 with e2;exact e2.symm);subst e7;have j0:W1.cell? ⟨p,0,none⟩=some (.slice (some ⟨g,o,none⟩) n c):=P1.cell rfl;have j1:W1.cell? ⟨p,1,none⟩=some (.int .i64 (i:Int)):=P1.cell rfl;have HP1:=jj P1;have HW1:=jj hW1;have HB1:=jj (show Bt p W W1 by rw[←hW1];exact (Bt.set _ _ _ _).trans (Bt.set _ _ _ _));clear P1 hW1 h hn ht e2;go_enter Tryz.func69,Tryz.ntmps69;go_wp2;rw[HW1.out];go_quiet (fail);go_wp2;have hD:Drawn W1 (W1.drewN nq):=⟨nq,rfl⟩;generalize W1.drewN nq=W2 at hD ⊢;have P2:=HP1.out.drawn hD;have j0:W2.cell? ⟨p,0,none⟩=some (.slice (some ⟨g,o,none⟩) n c):=P2.cell rfl;have j1:W2.cell? ⟨p,1,none⟩=some (.int .i64 (i:Int)):=P2.cell rfl;have j4:W2.cell? ⟨p,4,none⟩=some (.int .i64 len):=P2.cell rfl;have g4:=P2.free 4;have e5:=(hD.cell ⟨g,o+i*4+2,none⟩).trans e5;have HP2:=jj P2;have HD:=jj hD;clear P2 hD;go_still_tail 12,(by kernel_rfl);change wpList _ _ _ _ _ W2.drew;go_wp2
      go_end0
      refine ⟨rfl,⟨?_,H.out.ib,H.out.n6,H.out.tl⟩,?_⟩
      · have:=(HP2.out.set 4 (.int .i64 (jaq T len ⟨i,none⟩))).drawn ⟨1,rfl⟩;exact this
      · exact HB1.out.trans ((Bt.drawn HD.out p).trans ((Bt.set _ _ _ _).trans (Bt.drawn ⟨1,rfl⟩ p)))
    · have HK:=jj (show len=jaq T len ⟨i,none⟩ by unfold jaq;simp[out_in hn hlt]);have d1:decide ((i:Int)<(n:Int))=false:=decide_eq_false (by omega);clear h hn;go_enter Tryz.func69,Tryz.ntmps69;go_wp2;go_quiet (fail);go_wp2
      go_end0
      exact ⟨rfl,(H.out.fail rfl _ HK.out).drawn (Drawn.more (Drawn.refl _) _),((Bt.set _ _ _ _).trans (Bt.set _ _ _ _)).drew _⟩
theorem ris {p:Nat} {A:Option Addr} {n c:Nat} {len:Int} {T:List Tk} {s:Ps} {W:World} (h:RS W p A n c len T s) (k:Int) (hk:k≠0) (x:List UInt8) (z:ByteArray) (hz:z=bs x) :
    Calls Tryz.prog 64 #[.pointer (some ⟨p,0,none⟩),.int .i64 k,.string z] W fun e w'=>e=.returned (.bool (isP T k x s))∧Drawn W w':=by
  subst hz;obtain ⟨k0,k1,k2,k3,k4⟩:=h.cells;obtain ⟨hn,hnc,hcc⟩:=h.tks;have HT:=jj h.tk;have hi:=h.ib;have hn6:=h.n6;have HC:=jj (fun m:Nat=>jgy (h.drawn ⟨m,rfl⟩));by_cases hK:jbi T s=k
  · have hin:=jh6 (T:=T) (s:=s) (by rw[hK];exact hk);(have hlt:s.i<n:=by have:=hin.2;omega);obtain ⟨g,o,t,rfl,ht,c0,c1,c2,c3⟩:=HT.out.at_ hlt;have hst:=str_beqL t.text x;obtain ⟨q,hq⟩:=jx ((t.text==x));rw[hq] at hst;have HK:=jj (show q=isP T k x s by unfold isP txtP;rw[hK,ht,←hq];simp);(have e0:(k==k)=true:=by simp);obtain ⟨i,hi'⟩:=jx (s.i);rw[hi'] at k1 c0 c1 c2 c3 hlt;(have d2:(i:Int)<(n:Int):=by omega);(have d3:(0:Int)≤(i:Int):=by omega);rw[hK] at HC;clear h hn ht hin hi' hi hK hq;go_enter Tryz.func64,Tryz.ntmps64;go_wp2;go_quiet ((go_at_call 76;exact jfv (HC.out _)));go_wp2;go_ret;exact ⟨ja1 HK.out,Drawn.more (Drawn.refl _) _⟩
  · have HK:=jj (show false=isP T k x s by unfold isP;rw[beq_eq_false_iff_ne.2 hK];simp);obtain ⟨K,hKe⟩:=jx (jbi T s);rw[hKe] at HC hK;have e0:(K==k)=false:=beq_eq_false_iff_ne.2 hK;clear h hn hKe hK;go_enter Tryz.func64,Tryz.ntmps64;go_wp2;go_quiet ((go_at_call 76;exact jfv (HC.out _)));go_wp2;go_ret;exact ⟨ja1 HK.out,Drawn.more (Drawn.refl _) _⟩
end
section
open Go.RowKit
theorem jcu {p:Nat} {A:Option Addr} {n c:Nat} {len:Int} {T:List Tk} {s:Ps} {W:World} (h:RS W p A n c len T s) (k:Int) (hk:k≠0) (x:List UInt8) (z:ByteArray) (hz:z=bs x) :
    Calls Tryz.prog 80 #[.pointer (some ⟨p,0,none⟩),.int .i64 k,.string z] W fun e w'=>e=.returned (.bool (isP T k x s))∧RS w' p A n c len T (jbu T k x s)∧Bt p W w':=by
  have HC:=jj (ris h k hk x z hz);clear hz;have hn:=h.tks.1;have H:=jj h;have hi:=h.ib;have hn6:=h.n6
  cases hq:isP T k x s with
  | true =>
    have hin:=jh6 (jj5 hk hq);(have hlt:s.i<n:=by have:=hin.2;omega);have HE:=jj (show jbu T k x s=jbb s by unfold jbu;rw[hq];rfl);rw[hq] at HC;clear h hq hin hn;go_enter Tryz.func80,Tryz.ntmps80;go_wp2_with fail;(with_reducible refine HC.out.mono ?_);rintro e w1 ⟨rfl,hd⟩;have H1:=H.out.drawn hd;obtain ⟨k0,k1,k2,k3,k4⟩:=H1.cells;obtain ⟨f1,f3,f4⟩:=H1.frees;have HN:=jj (H1.next hlt);have HB:=jj ((Bt.drawn hd p).trans (Bt.set w1 p 1 (.int .i64 ((s.i:Int)+1))));clear H1 hd;go_wp2;go_ret;exact ⟨rfl,by rw[HE.out];exact HN.out,HB.out⟩
  | false =>
    have HE:=jj (show jbu T k x s=s by unfold jbu;rw[hq];rfl);rw[hq] at HC;clear h hq hn;go_enter Tryz.func80,Tryz.ntmps80;go_wp2_with fail;(with_reducible refine HC.out.mono ?_);rintro e w1 ⟨rfl,hd⟩;have HN:=jj (H.out.drawn hd);have HB:=jj (Bt.drawn hd p);clear hd;go_wp2;go_ret;exact ⟨rfl,by rw[HE.out];exact HN.out,HB.out⟩
theorem je5 {p:Nat} {A:Option Addr} {n c:Nat} {len:Int} {T:List Tk} {s:Ps} {W:World} (h:RS W p A n c len T s) (k:Int) (hk:k≠0) (x:List UInt8) (z:ByteArray) (hz:z=bs x) :
    Calls Tryz.prog 67 #[.pointer (some ⟨p,0,none⟩),.int .i64 k,.string z] W fun e w'=>e=.returned (.tuple #[])∧RS w' p A n c len T (jab T len k x s)∧Bt p W w':=by
  have HC:=jj (jcu h k hk x z hz);clear hz
  cases hq:isP T k x s with
  | true =>
    have HE:=jj (show jbu T k x s=jab T len k x s by unfold jbu jab;rw[hq];rfl);rw[hq] at HC;clear h hq;go_enter Tryz.func67,Tryz.ntmps67;go_wp2_with fail;(with_reducible refine HC.out.mono ?_);rintro e w1 ⟨rfl,h1,hb⟩;rw[HE.out] at h1;have H1:=jj h1;have HB:=jj hb;clear h1 hb;go_wp2
    go_end0
    exact ⟨rfl,H1.out,HB.out⟩
  | false =>
    have HE:=jj (show jbu T k x s=s by unfold jbu;rw[hq];rfl);have HE2:=jj (show jgg T len s=jab T len k x s by unfold jab;rw[hq];rfl);rw[hq] at HC;clear h hq;go_enter Tryz.func67,Tryz.ntmps67;go_wp2_with fail;(with_reducible refine HC.out.mono ?_);rintro e w1 ⟨rfl,h1,hb⟩;rw[HE.out] at h1;have H1:=jj (rfail h1);have HB:=jj hb;clear h1 hb;go_wp2_with fail;(with_reducible refine H1.out.mono ?_);rintro e w2 ⟨rfl,h2,hb2⟩;have H2:=jj h2;have HB2:=jj (HB.out.trans hb2);clear h2 hb2;go_wp2
    go_end0
    exact ⟨rfl,by rw[←HE2.out];exact H2.out,HB2.out⟩
theorem jiy {p:Nat} {A:Option Addr} {n c:Nat} {len:Int} {T:List Tk} {s:Ps} {W:World} (h:RS W p A n c len T s) (k:Int) (hk:k≠0) :
    Calls Tryz.prog 66 #[.pointer (some ⟨p,0,none⟩),.int .i64 k] W fun e w'=>e=.returned (.string (bs (jai T len k s).1))∧RS w' p A n c len T (jai T len k s).2∧Bt p W w':=by
  have HC:=jj (jgy h);have hn:=h.tks.1;have hnc:=h.tks.2.1;have hcc:=h.tks.2.2;have H:=jj h;have hi:=h.ib;have hn6:=h.n6;by_cases hK:jbi T s=k
  · have hin:=jh6 (T:=T) (s:=s) (by rw[hK];exact hk);(have hlt:s.i<n:=by have:=hin.2;omega);obtain ⟨t,ht⟩:∃t,T[s.i]?=some t:=⟨_,List.getElem?_eq_getElem hin.2⟩;have HE:=jj (show jai T len k s=(t.text,jbb s) by unfold jai txtP;rw[if_pos hK,ht]);(have e0:(k != k)=false:=by simp);rw[hK] at HC;have Ht:=jj ht;clear h hin hn hK ht;go_enter Tryz.func66,Tryz.ntmps66;go_wp2_with fail;(with_reducible refine HC.out.mono ?_);rintro e w1 ⟨rfl,hd⟩;have H1:=H.out.drawn hd;obtain ⟨k0,k1,k2,k3,k4⟩:=H1.cells;obtain ⟨f1,f3,f4⟩:=H1.frees;have HN:=jj (H1.next hlt);have HB:=jj ((Bt.drawn hd p).trans (Bt.set w1 p 1 (.int .i64 ((s.i:Int)+1))));obtain ⟨W2,hW2⟩:=jx (w1.setCell ⟨p,1,none⟩ (.int .i64 ((s.i:Int)+1)));rw[hW2] at HN HB;have HW2:=jj hW2;obtain ⟨j0,-,j2,j3,j4⟩:=HN.out.cells;obtain ⟨g,o,t',rfl,ht',c0,c1,c2,c3⟩:=HN.out.tk.at_ hlt;(obtain rfl:t'=t:=by have:=Ht.out;rw[ht'] at this;injection this);have j1:W2.cell? ⟨p,1,none⟩=some (.int .i64 ((s.i:Int)+1)):=HN.out.cells.2.1;obtain ⟨i,hi'⟩:=jx (s.i);rw[hi'] at k1 c0 c1 c2 c3 hlt j1 HW2;(have d2:(i:Int)<(n:Int):=by omega);(have d3:(0:Int)≤(i:Int):=by omega);obtain ⟨J,hJ⟩:∃J:Nat,i+1=J:=⟨_,rfl⟩;(have d4:(J:Int) - 1=(i:Int):=by omega);rw[show (i:Int)+1=(J:Int) by omega] at j1;clear H1 hd hW2 hi' hi ht' Ht hJ;go_wp2;rw[HW2.out];go_quiet (fail);go_wp2;go_ret;exact ⟨by rw[HE.out];rfl,by rw[HE.out];exact HN.out.drawn (Drawn.more (Drawn.refl _) _),HB.out.drew _⟩
  · obtain ⟨K,hKe⟩:=jx (jbi T s);have HE:=jj (show jai T len k s=([],jgg T len s) by unfold jai;rw[if_neg hK]);rw[hKe] at HC hK;(have e0:(K != k)=true:=by unfold bne;rw[beq_eq_false_iff_ne.2 hK];rfl);clear h hKe hK;go_enter Tryz.func66,Tryz.ntmps66;go_wp2_with fail;(with_reducible refine HC.out.mono ?_);rintro e w1 ⟨rfl,hd⟩;have H1:=jj (rfail (H.out.drawn hd));have HB:=jj (Bt.drawn hd p);clear hd;go_wp2_with fail;(with_reducible refine H1.out.mono ?_);rintro e w2 ⟨rfl,h2,hb2⟩;have H2:=jj h2;have HB2:=jj (HB.out.trans hb2);clear h2 hb2;go_wp2;go_ret;exact ⟨by rw[HE.out];rfl,by rw[HE.out];exact H2.out,HB2.out⟩
end
section
open Go.RowKit
theorem jew {p:Nat} {A:Option Addr} {n c:Nat} {len:Int} {T:List Tk} {s:Ps} {W:World} (h:RS W p A n c len T s) (k a:Int) (z:ByteArray) (A':Option Addr) (m' d':Nat) :
    Calls Tryz.prog 68 #[.pointer (some ⟨p,0,none⟩),.int .i64 k,.string z,.int .i64 a,.slice A' m' d'] W fun e w' =>
      e=.returned (.agg #[.int .i64 k,.string z,.int .i64 a,.int .i64 (jao T s),.slice A' m' d'])∧Below W.heap.size W w':=by
  obtain ⟨w0,hw0⟩:=jx (W.alloc (.cells #[.int .i64 0,.string ⟨#[]⟩,.int .i64 0,.int .i64 0,.slice none 0 0] 25));have hF:=jae W (.int .i64 0) (.string ⟨#[]⟩) (.int .i64 0) (.int .i64 0) (.slice none 0 0) 25;have hB:=jak (Below.refl _ W) (.cells #[.int .i64 0,.string ⟨#[]⟩,.int .i64 0,.int .i64 0,.slice none 0 0] 25);rw[hw0] at hF hB;have HC:=jj (jju (h.keep hB));have HF:=jj hF;have HB:=jj hB;have HW:=jj hw0;clear h hF hB hw0;go_enter Tryz.func68,Tryz.ntmps68;go_wp2_with fail;rw[HW.out];(with_reducible refine HC.out.mono ?_);rintro e w1 ⟨rfl,hd⟩;have F1:=HF.out.keep (hd.below _);have HF1:=jj F1;have HB1:=jj (HB.out.trans (hd.below W.heap.size));obtain ⟨⟨-,x0,x1,x2,x3,x4⟩,g0,g1,g2,g3,g4⟩:=F1;clear hd HW;go_wp2;exact bodyPost_ret (jag rfl _ _ W.heap.size _ _ _ _ _ rfl (ja3 HF1.out _ _ _ _ _)) rfl ⟨rfl,jaj HB1.out (Nat.le_refl _)⟩
theorem cell_1 {W:World} {q:Addr} {v:Value} (h:W.cell? q=some v):∀Y,(W.alloc Y).cell? q=some v:=fun Y=>by
  rw[World.cell?_alloc_lt _ _ _ (World.block_lt_of_cell? _ _ h)]
  exact h
theorem jem {W:World} {ok:Nat→Prop} {A:Option Addr} {m d:Nat} {l:List Nd} (h:NdS W ok A m d l) (hm6:m≤4000000) (a:Int) :
    Calls Tryz.prog 83 #[.slice A m d,.int .i64 a] W fun e w' =>
      e=.returned (.agg #[.int .i64 24,.string ⟨#[]⟩,.int .i64 (jbm l a).at_,.int .i64 (jbm l a).en,.slice A m d])∧Below W.heap.size W w':=by
  obtain ⟨hl,hmd,hdd⟩:=h.len
  cases m with
  | zero =>
    obtain rfl:l=[]:=List.eq_nil_of_length_eq_zero hl;have HB:=jj (fun X Y=>jak (jak (Below.refl _ W) X) Y);have HE:=jj (show (jbm [] a).at_=a∧(jbm [] a).en=a from ⟨rfl,rfl⟩);clear h hl;rw[HE.out.1,HE.out.2];go_enter Tryz.func83,Tryz.ntmps83;go_wp2;exact bodyPost_ret (jag rfl _ _ W.heap.size _ _ _ _ _ rfl ((ja6 W _ _ _ _ _ _).keep (jak (Below.refl _ _) _))) rfl ⟨rfl,jak (jak (Below.refl _ W) _) _⟩
  | succ j =>
    obtain ⟨g,o,y,q,r,t,rfl,hy,hk,e0,e1,e2,e3,e4⟩:=h.at_ (Nat.succ_pos j);obtain ⟨g',o',y',q',r',t',he,hy',hk',e0',e1',e2',e3',e4'⟩:=h.at_ (Nat.lt_succ_self j);cases he;rw[Nat.zero_mul,Nat.add_zero] at e2;have E2:=cell_2 e2;have E3:=cell_2 e3'
    have HE:=jj (show (jbm l a).at_=y.at_∧(jbm l a).en=y'.en by
      have h1:l.getLast?=some y':=by rw[List.getLast?_eq_getElem?,hl];exact hy'
      cases l with
      | nil=>simp at hy
      | cons z l =>
        simp at hy;subst hy;refine ⟨rfl,?_⟩;show (match (z :: l).getLast? with | none=>a | some n=>n.en)=y'.en
        rw[h1])
    obtain ⟨M,hM⟩:=jx (j+1);(have d1:(M:Int) - 1=(j:Int):=by omega);(have d2:(j:Int)<(M:Int):=by omega);(have d3:(0:Int)<(M:Int):=by omega);(have d4:(0:Int)≤(j:Int):=by omega);(have d5:¬(M:Int)≤0:=by omega);rw[hM] at hmd hm6 ⊢;rw[HE.out.1,HE.out.2];clear h hl hy hk hy' hk' e0 e1 e2 e3 e4 e0' e1' e2' e3' e4' hM HE;go_enter Tryz.func83,Tryz.ntmps83;go_wp2;exact bodyPost_ret (jag rfl _ _ W.heap.size _ _ _ _ _ rfl ((ja6 W _ _ _ _ _ _).keep (jak (Below.refl _ _) _))) rfl ⟨rfl,jak (jak (Below.refl _ W) _) _⟩
structure RW (p:Nat) (A:Option Addr) (n c:Nat) (len:Int) (T:List Tk) (w W:World) (s:Ps):Prop where
  rs:RS W p A n c len T s
  bt:Bt p w W
  size:w.heap.size+1≤W.heap.size
  lt:p<w.heap.size
  box:FiveF W w.heap.size (.int .i64 0) (.string ⟨#[]⟩) (.int .i64 0) (.int .i64 0) (.slice none 0 0)
section
variable {p:Nat} {w W W':World} {A:Option Addr} {n c:Nat} {len:Int} {T:List Tk} {s s':Ps}
theorem RW.start (h:RS w p A n c len T s):RW p A n c len T w (w.alloc (.cells #[.int .i64 0,.string ⟨#[]⟩,.int .i64 0,.int .i64 0,.slice none 0 0] 25)) s :=
  ⟨h.keep (jak (Below.refl _ w) _),(Bt.refl p w).more _,by simp,h.st.lt,jae w _ _ _ _ _ _⟩
theorem RW.next (h:RW p A n c len T w W s) (hs:RS W' p A n c len T s') (hb:Bt p W W'):RW p A n c len T w W' s' :=
  ⟨hs,h.bt.trans hb,Nat.le_trans h.size hb.size,h.lt,h.box.bt hb (by have:=h.lt;omega)⟩
theorem RW.keep (h:RW p A n c len T w W s) (hb:Below W.heap.size W W'):RW p A n c len T w W' s:=h.next (h.rs.keep hb) (Bt.of hb p)
theorem RW.drawn (h:RW p A n c len T w W s) (hd:Drawn W W'):RW p A n c len T w W' s:=h.keep (hd.below _)
theorem RW.more (h:RW p A n c len T w W s) (o:Obj):RW p A n c len T w (W.alloc o) s:=h.keep (jak (Below.refl _ W) o)
theorem RW.fin (h:RW p A n c len T w W s) {c0 c1 c2 c3 c4:Value} {x:Nd} (hx:NdV W (fun g=>w.heap.size+1≤g) (.agg #[c0,c1,c2,c3,c4]) x) :
    GotR p A n c len T w x s (.returned (.agg #[c0,c1,c2,c3,c4])) (jex W w.heap.size c0 c1 c2 c3 c4):=by
  obtain ⟨rfl,rfl,rfl,rfl,A',m',d',rfl,-⟩:=hx.cells;exact ⟨A',m',d',rfl,jnf hx (Nat.lt_succ_self _) _ (Nat.le_succ _),h.rs.at_ (jaj (Below.refl w.heap.size W) (Nat.le_refl _)) h.lt,jj1 h.bt (Nat.le_refl _)⟩
theorem GotR.new {x:Nd} {e:Ending} (h:GotR p A n c len T W x s' e W') (hw:RW p A n c len T w W s) :
    ∃A' m' d',e=.returned (.agg #[.int .i64 x.kind,.string (bs x.text),.int .i64 x.at_,.int .i64 x.en,.slice A' m' d'])∧NdV W' (fun g=>w.heap.size+1≤g) (.agg #[.int .i64 x.kind,.string (bs x.text),.int .i64 x.at_,.int .i64 x.en,.slice A' m' d']) x∧RW p A n c len T w W' s':=by
  obtain ⟨A',m',d',rfl,hv,hs,hb⟩:=h;exact ⟨A',m',d',rfl,hv.wide hw.size,hw.next hs hb⟩
theorem GotR.bt {x:Nd} {e:Ending} (h:GotR p A n c len T W x s' e W'):Bt p W W':=h.choose_spec.choose_spec.choose_spec.2.2.2
end
theorem jlk {p:Nat} {A:Option Addr} {n c:Nat} {len:Int} {T:List Tk} {s:Ps} {W:World} (h:RS W p A n c len T s) (whole:Bool) (hk:jbi T s=6∨jbi T s=7) :
    Calls Tryz.prog 77 #[.pointer (some ⟨p,0,none⟩),.bool whole] W (GotR p A n c len T W (jco T len whole s).1 (jco T len whole s).2):=by
  have h0:=RW.start h;obtain ⟨w0,hw0⟩:=jx (W.alloc (.cells #[.int .i64 0,.string ⟨#[]⟩,.int .i64 0,.int .i64 0,.slice none 0 0] 25));rw[hw0] at h0;have H0:=jj h0;have HW:=jj hw0;clear h0 hw0 h;rcases hk with hk | hk
  · have HK:=jj (fun X (hX:RS X p A n c len T s)=>show Calls Tryz.prog 76 #[.pointer (some ⟨p,0,none⟩)] X fun e w'=>e=.returned (.int .i64 6)∧Drawn X w' by have:=jgy hX;rw[hk] at this;exact this)
    cases whole with
    | true =>
      have HE:=jj (show jco T len true s=(je3 T 25 (jai T len 6 s).1 (jaq T len s) [] (jab T len 5 [59] (jai T len 6 s).2),jab T len 5 [59] (jai T len 6 s).2) by unfold jco;rw[hk];rfl);clear hk;go_enter Tryz.func77,Tryz.ntmps77;go_wp2_with fail;rw[HW.out];(with_reducible refine (jha H0.out.rs).mono ?_);rintro e w1 ⟨rfl,hd1⟩;have H1:=jj (H0.out.drawn hd1);clear hd1 HW H0;go_wp2_with fail;(with_reducible refine (HK.out _ H1.out.rs).mono ?_);rintro e w2 ⟨rfl,hd2⟩;have H2:=jj (H1.out.drawn hd2);clear hd2 H1;go_wp2_with fail;(with_reducible refine (HK.out _ H2.out.rs).mono ?_);rintro e w3 ⟨rfl,hd3⟩;have H3:=jj (H2.out.drawn hd3);clear hd3 H2;go_wp2_with fail;(with_reducible refine (jiy H3.out.rs 6 (by decide)).mono ?_);rintro e w4 ⟨rfl,h4,b4⟩;have H4:=jj (H3.out.next h4 b4);clear h4 b4 H3;go_wp2_with fail;(with_reducible refine (je5 H4.out.rs 5 (by decide) [59] ⟨#[59]⟩ rfl).mono ?_);rintro e w5 ⟨rfl,h5,b5⟩;have H5:=jj (H4.out.next h5 b5);clear h5 b5 H4;go_wp2_with fail;(with_reducible refine (jew H5.out.rs 25 (jaq T len s) (bs (jai T len 6 s).1) none 0 0).mono ?_);rintro e w6 ⟨rfl,b6⟩;have H6:=jj (H5.out.keep b6);obtain ⟨⟨-,x0,x1,x2,x3,x4⟩,g0,g1,g2,g3,g4⟩:=H6.out.box;clear b6 H5;go_wp2;exact bodyPost_ret (jag rfl _ _ W.heap.size _ _ _ _ _ rfl (ja3 H6.out.box _ _ _ _ _)) rfl (by rw[HE.out];exact H6.out.fin (jc1 _ _ _ _))
    | false =>
      have HE:=jj (show jco T len false s=(je3 T 25 (jai T len 6 s).1 (jaq T len s) [] (jai T len 6 s).2,(jai T len 6 s).2) by unfold jco;rw[hk];rfl);clear hk;go_enter Tryz.func77,Tryz.ntmps77;go_wp2_with fail;rw[HW.out];(with_reducible refine (jha H0.out.rs).mono ?_);rintro e w1 ⟨rfl,hd1⟩;have H1:=jj (H0.out.drawn hd1);clear hd1 HW H0;go_wp2_with fail;(with_reducible refine (HK.out _ H1.out.rs).mono ?_);rintro e w2 ⟨rfl,hd2⟩;have H2:=jj (H1.out.drawn hd2);clear hd2 H1;go_wp2_with fail;(with_reducible refine (HK.out _ H2.out.rs).mono ?_);rintro e w3 ⟨rfl,hd3⟩;have H3:=jj (H2.out.drawn hd3);clear hd3 H2;go_wp2_with fail;(with_reducible refine (jiy H3.out.rs 6 (by decide)).mono ?_);rintro e w4 ⟨rfl,h4,b4⟩;have H4:=jj (H3.out.next h4 b4);clear h4 b4 H3;go_wp2_with fail;(with_reducible refine (jew H4.out.rs 25 (jaq T len s) (bs (jai T len 6 s).1) none 0 0).mono ?_);rintro e w6 ⟨rfl,b6⟩;have H6:=jj (H4.out.keep b6);obtain ⟨⟨-,x0,x1,x2,x3,x4⟩,g0,g1,g2,g3,g4⟩:=H6.out.box;clear b6 H4;go_wp2;exact bodyPost_ret (jag rfl _ _ W.heap.size _ _ _ _ _ rfl (ja3 H6.out.box _ _ _ _ _)) rfl (by rw[HE.out];exact H6.out.fin (jc1 _ _ _ _))
  · have HK:=jj (fun X (hX:RS X p A n c len T s)=>show Calls Tryz.prog 76 #[.pointer (some ⟨p,0,none⟩)] X fun e w'=>e=.returned (.int .i64 7)∧Drawn X w' by have:=jgy hX;rw[hk] at this;exact this)
    cases whole with
    | true =>
      have HE:=jj (show jco T len true s=(je3 T 26 (jai T len 7 s).1 (jaq T len s) [] (jab T len 5 [59] (jai T len 7 s).2),jab T len 5 [59] (jai T len 7 s).2) by unfold jco;rw[hk];rfl);clear hk;go_enter Tryz.func77,Tryz.ntmps77;go_wp2_with fail;rw[HW.out];(with_reducible refine (jha H0.out.rs).mono ?_);rintro e w1 ⟨rfl,hd1⟩;have H1:=jj (H0.out.drawn hd1);clear hd1 HW H0;go_wp2_with fail;(with_reducible refine (HK.out _ H1.out.rs).mono ?_);rintro e w2 ⟨rfl,hd2⟩;have H2:=jj (H1.out.drawn hd2);clear hd2 H1;go_wp2_with fail;(with_reducible refine (HK.out _ H2.out.rs).mono ?_);rintro e w3 ⟨rfl,hd3⟩;have H3:=jj (H2.out.drawn hd3);clear hd3 H2;go_wp2_with fail;(with_reducible refine (jiy H3.out.rs 7 (by decide)).mono ?_);rintro e w4 ⟨rfl,h4,b4⟩;have H4:=jj (H3.out.next h4 b4);clear h4 b4 H3;go_wp2_with fail;(with_reducible refine (je5 H4.out.rs 5 (by decide) [59] ⟨#[59]⟩ rfl).mono ?_);rintro e w5 ⟨rfl,h5,b5⟩;have H5:=jj (H4.out.next h5 b5);clear h5 b5 H4;go_wp2_with fail;(with_reducible refine (jew H5.out.rs 26 (jaq T len s) (bs (jai T len 7 s).1) none 0 0).mono ?_);rintro e w6 ⟨rfl,b6⟩;have H6:=jj (H5.out.keep b6);obtain ⟨⟨-,x0,x1,x2,x3,x4⟩,g0,g1,g2,g3,g4⟩:=H6.out.box;clear b6 H5;go_wp2;exact bodyPost_ret (jag rfl _ _ W.heap.size _ _ _ _ _ rfl (ja3 H6.out.box _ _ _ _ _)) rfl (by rw[HE.out];exact H6.out.fin (jc1 _ _ _ _))
    | false =>
      have HE:=jj (show jco T len false s=(je3 T 26 (jai T len 7 s).1 (jaq T len s) [] (jai T len 7 s).2,(jai T len 7 s).2) by unfold jco;rw[hk];rfl);clear hk;go_enter Tryz.func77,Tryz.ntmps77;go_wp2_with fail;rw[HW.out];(with_reducible refine (jha H0.out.rs).mono ?_);rintro e w1 ⟨rfl,hd1⟩;have H1:=jj (H0.out.drawn hd1);clear hd1 HW H0;go_wp2_with fail;(with_reducible refine (HK.out _ H1.out.rs).mono ?_);rintro e w2 ⟨rfl,hd2⟩;have H2:=jj (H1.out.drawn hd2);clear hd2 H1;go_wp2_with fail;(with_reducible refine (HK.out _ H2.out.rs).mono ?_);rintro e w3 ⟨rfl,hd3⟩;have H3:=jj (H2.out.drawn hd3);clear hd3 H2;go_wp2_with fail;(with_reducible refine (jiy H3.out.rs 7 (by decide)).mono ?_);rintro e w4 ⟨rfl,h4,b4⟩;have H4:=jj (H3.out.next h4 b4);clear h4 b4 H3;go_wp2_with fail;(with_reducible refine (jew H4.out.rs 26 (jaq T len s) (bs (jai T len 7 s).1) none 0 0).mono ?_);rintro e w6 ⟨rfl,b6⟩;have H6:=jj (H4.out.keep b6);obtain ⟨⟨-,x0,x1,x2,x3,x4⟩,g0,g1,g2,g3,g4⟩:=H6.out.box;clear b6 H4;go_wp2;exact bodyPost_ret (jag rfl _ _ W.heap.size _ _ _ _ _ rfl (ja3 H6.out.box _ _ _ _ _)) rfl (by rw[HE.out];exact H6.out.fin (jc1 _ _ _ _))
end
end Go.Proofs.YtonoklmobocikaaGreatDoor
