/- Lemmas. -/
import Derived.Test.YtonoklmobocikaaGreatDoorK06
import Derived.Test.YtonoklmobocikaaGreatDoorK23
set_option linter.unusedVariables false
set_option linter.unusedSimpArgs false
set_option maxRecDepth 20000
set_option maxHeartbeats 6400000
namespace Go.Proofs.YtonoklmobocikaaGreatDoor
section
open Go.RowKit
theorem NdS.belowB {W W':World} {B:Nat} {q:Nat→Prop} {A:Option Addr} {m d:Nat} {l:List Nd} (h:NdS W q A m d l) (hq:∀g,q g→g<B) (hb:Below B W W'):NdS W' q A m d l :=
  h.map (fun p hp _=>hb.cell (hq _ hp)) fun _ h _=>h
mutual
theorem nodes_size:∀(n y:Nd),y∈jca n→sizeN y≤sizeN n
  | .mk k x a e l,y,h=>by
    rw[jca] at h
    rcases List.mem_cons.1 h with rfl | h
    · exact Nat.le_refl _
    · have:=jj3 l y h
      rw[sizeN];omega
theorem jj3:∀(l:List Nd) (y:Nd),y∈jc7 l→sizeN y≤ja8 l
  | [],y,h=>by rw[jc7] at h;cases h
  | n :: l,y,h=>by
    rw[jc7] at h
    rw[ja8]
    rcases List.mem_append.1 h with h | h
    · have:=nodes_size n y h;omega
    · have:=jj3 l y h;omega
end
def lenV:Value→Nat | .slice _ n _=>n | _=>0
theorem OwnQ.len {W:World} {B:Nat} {q:Nat→Prop} {A:Option Addr} {m d:Nat} {xs:List Nd} (h:OwnQ W B q (.slice A m d) xs):m=xs.length∧m≤d∧d≤9223372036854775807:=by
  obtain ⟨A',m',d',vs,he,hm,hvs,-⟩:=h.s (fun _=>True) (fun _ _=>trivial) (fun _ _ _=>trivial);cases he;exact ⟨hm,hvs.1,hvs.2.1⟩
theorem OwnQ.nds {W:World} {B:Nat} {q:Nat→Prop} {A:Option Addr} {m d:Nat} {xs:List Nd} (h:OwnQ W B q (.slice A m d) xs):NdS W (fun _=>True) A m d xs:=by
  obtain ⟨A',m',d',vs,he,hm,hvs,hn⟩:=h.s (fun _=>True) (fun _ _=>trivial) (fun _ _ _=>trivial);cases he;exact ⟨vs,hvs,hm.symm,hn⟩
def cont (off:Int) (y:Nd):Bool:=decide (y.at_≤off)&&decide (off<y.en)
theorem around_cons {off:Int} {y:Nd} (h:cont off y=true):jcz off y=y :: jcv off y.kids:=by
  obtain ⟨k,x,a,e,l⟩:=y;unfold cont at h;simp only[Bool.and_eq_true,decide_eq_true_eq] at h;exact (jcz.eq_1 off k x a e l).trans (if_pos h)
theorem around_nil {off:Int} {y:Nd} (h:cont off y=false):jcz off y=[]:=by
  obtain ⟨k,x,a,e,l⟩:=y;rw[jcz,if_neg];intro h';unfold cont at h;rw[show (Nd.mk k x a e l).at_=a from rfl,show (Nd.mk k x a e l).en=e from rfl,decide_eq_true h'.1,decide_eq_true h'.2] at h;cases h
theorem aroundL_first {off:Int}:∀{l:List Nd} {i:Nat} {y:Nd},l[i]?=some y→cont off y=true→(∀j<i,∀z,l[j]?=some z→cont off z=false)→jcv off l=y :: jcv off y.kids:=by
  intro l
  induction l with
  | nil=>intro i y h;simp at h
  | cons n l ih =>
    intro i y h hc hz
    cases i with
    | zero =>
      simp at h;subst h;rw[jcv,around_cons hc,if_neg (by simp)]
    | succ i =>
      rw[jcv,if_pos (by rw[around_nil (hz 0 (Nat.succ_pos i) n rfl)];rfl)];exact ih (by simpa using h) hc fun j hj z hz'=>hz (j+1) (by omega) z (by simpa using hz')
theorem aroundL_zero {off:Int} {l:List Nd} (h:∀(j:Nat) z,l[j]?=some z→cont off z=false):jcv off l=[]:=aroundL_none fun j z hz=>by rw[around_nil (h j z hz)];try rfl
theorem aroundL_one (off:Int) (n:Nd):jcv off [n]=jcz off n:=by
  rw[jcv,jcv];split
  · rename_i h;rw[List.eq_nil_of_length_eq_zero h]
  · rfl
theorem run_cont (xs:Array Value) (W:World):(callFunc 51 xs).run Tryz.prog W=.ok (.enter 51 xs) W:=by kernel_rfl
theorem pcont (off:Int) (b:Nat) (y:Nd) (yA:Option Addr) (ym yd:Nat) (W:World) (hb:b<W.heap.size) (hc:W.cell? ⟨b,0,none⟩=some (.int .i64 off)) :
    Calls Tryz.prog 51 #[.agg #[.int .i64 y.kind,.string (bs y.text),.int .i64 y.at_,.int .i64 y.en,.slice yA ym yd],.pointer (some ⟨b,0,none⟩)] W fun e w'=>e=.returned (.bool (cont off y))∧Below W.heap.size W w':=by
  obtain ⟨-,t0,t1,t2,t3,t4⟩:=ja6 W (.int .i64 y.kind) (.string (bs y.text)) (.int .i64 y.at_) (.int .i64 y.en) (.slice yA ym yd) 25;have hk:=jak (Below.refl W.heap.size W) (.cells #[.int .i64 y.kind,.string (bs y.text),.int .i64 y.at_,.int .i64 y.en,.slice yA ym yd] 25);have hc1:=(hk.cell (p:=⟨b,0,none⟩) hb).trans hc;obtain ⟨w1,hw1⟩:=jx (W.alloc (.cells #[.int .i64 y.kind,.string (bs y.text),.int .i64 y.at_,.int .i64 y.en,.slice yA ym yd] 25));rw[hw1] at t0 t1 t2 t3 t4 hk hc1;have HB:=jj hk;have HW:=jj hw1;obtain ⟨q,hq⟩:=jx (cont off y);rw[hq];unfold cont at hq;clear hk hw1 hc;by_cases h1:y.at_≤off
  · have d1:decide (y.at_≤off)=true:=decide_eq_true h1;have d2:decide (off≥y.at_)=true:=decide_eq_true (by omega);by_cases h2:off<y.en
    · have d3:decide (off<y.en)=true:=decide_eq_true h2;have HE:=jj (show q=true by rw[←hq,d1,d3];rfl);clear hq;go_enter Tryz.func51,Tryz.ntmps51;go_upto_region 1 with fail;rw[HW.out];go_wp2;go_ret;exact ⟨ja1 HE.out.symm,HB.out⟩
    · have d3:decide (off<y.en)=false:=decide_eq_false h2;have HE:=jj (show q=false by rw[←hq,d1,d3];rfl);clear hq;go_enter Tryz.func51,Tryz.ntmps51;go_upto_region 1 with fail;rw[HW.out];go_wp2;go_ret;exact ⟨ja1 HE.out.symm,HB.out⟩
  · have d1:decide (y.at_≤off)=false:=decide_eq_false h1;have HE:=jj (show q=false by rw[←hq,d1];rfl);clear hq;go_enter Tryz.func51,Tryz.ntmps51;go_upto_region 1 with fail;rw[HW.out];go_wp2;go_ret;exact ⟨ja1 HE.out.symm,HB.out⟩
theorem pindex (off:Int) (b:Nat) {W:World} {ok:Nat→Prop} {A:Option Addr} {m d:Nat} {xs:List Nd} (h:NdS W ok A m d xs) (hb:b<W.heap.size) (hc:W.cell? ⟨b,0,none⟩=some (.int .i64 off)) :
    Calls Tryz.prog 52 #[.slice A m d,.func (.func 51) #[] #[.pointer (some ⟨b,0,none⟩)]] W fun e w'=>Below W.heap.size W w' ∧
      ((e=.returned (.int .i64 (-1))∧∀(j:Nat) z,xs[j]?=some z→cont off z=false)∨∃(i:Nat) (y:Nd),e=.returned (.int .i64 (i:Int))∧i<m∧xs[i]?=some y∧cont off y=true∧∀j<i,∀z,xs[j]?=some z→cont off z=false):=by
  have hl:=h.len;have hmd:=hl.2.1;have hdd:=hl.2.2;have HN:=jj h;have HLn:=jj hl.1;have HC0:=jj hc;have hcf:=run_cont;have HBb:=jj hb;clear h hl hc hb;go_enter Tryz.func52,Tryz.ntmps52;go_wp2_with fail
  go_loopw [8] (fun y wr=>∃i:Nat,i≤m∧y=.int .i64 (i:Int)∧(∀j<i,∀z,xs[j]?=some z→cont off z=false)∧Below W.heap.size W wr) (fun y _=>m - (intOf y).toNat)
  case atStart=>exact ⟨0,Nat.zero_le _,rfl,fun j hj=>absurd hj (Nat.not_lt_zero j),Below.refl _ _⟩
  case round =>
    obtain ⟨i,hi,rfl,hno,hb⟩:=hrel;obtain ⟨w3,hw3⟩:∃w3,w3=wr:=⟨wr,rfl⟩;subst hw3;have B3:=jj hb;have N3:=jj hno;by_cases hlt:i<m
    · (have hki:(i:Int)<(m:Int):=by omega);obtain ⟨g,o,y,yA,ym,yd,rfl,hy,ry,x0,x1,x2,x3,x4⟩:=(HN.out.kept hb).at_ hlt;have HC:=jj (pcont off b y yA ym yd w3 (Nat.lt_of_lt_of_le HBb.out hb.size) ((hb.cell (p:=⟨b,0,none⟩) HBb.out).trans HC0.out));have HY:=jj hy;obtain ⟨Q,hQ⟩:=jx (cont off y);rw[hQ] at HC;have HQ:=jj hQ;clear hy ry hb hno hQ
      cases Q with
      | true =>
        go_wp2_with fail;(with_reducible refine HC.out.mono ?_);rintro e2 w4 ⟨rfl,hb4⟩;have B4:=jj (bgo B3.out hb4);clear hb4;go_wp2;go_ret;exact ⟨B4.out,Or.inr ⟨i,y,rfl,hlt,HY.out,HQ.out,N3.out⟩⟩
      | false =>
        have N4:=jj (show ∀j<i+1,∀z,xs[j]?=some z→cont off z=false from fun j hj z hz=>by
          rcases Nat.lt_or_ge j i with h1 | h1
          · exact N3.out j h1 z hz
          · obtain rfl:j=i:=by omega
            rw[HY.out] at hz;cases hz;exact HQ.out)
        go_wp2_with fail;(with_reducible refine HC.out.mono ?_);rintro e2 w4 ⟨rfl,hb4⟩;have B4:=jj (bgo B3.out hb4);clear hb4 x0 x1 x2 x3 x4;go_wp2;go_roundw
        case rel=>exact ⟨i+1,by omega,by go_num,N4.out,B4.out⟩
        case measure=>simp[intOf];omega
    · (have hki:¬(i:Int)<(m:Int):=by omega);have HE:=jj (show ∀(j:Nat) z,xs[j]?=some z→cont off z=false from fun j z hz=>N3.out j (by have:=(List.getElem?_eq_some_iff.1 hz).1;have:=HLn.out;omega) z hz);clear hb hno;go_wp2;go_ret;exact ⟨B3.out,Or.inl ⟨rfl,HE.out⟩⟩
theorem pAround (off:Int) (n:Nd) (W:World) (ok:Nat→Prop) (v:Value) (h9:sizeN n≤1000000000) (hv:NdV W ok v n) :
    Calls Tryz.prog 27 #[v,.int .i64 off] W fun e w'=>∃A m d,e=.returned (.slice A m d)∧NdS w' (fun _=>True) A m d (jcz off n)∧Below W.heap.size W w':=by
  obtain ⟨i0,hi0,hz0,hz1,hz2⟩:=info_parts jfd;have hmf:∀(fn:Fn) (first cap:Array Value) (w:World),(Instr.makeFunc fn first cap).run Tryz.prog w=.ok (.func fn first cap) w:=fun _ _ _ _=>rfl
  cases hv with
  | mk k a e x B m d vs l hvs hlen hr =>
  have hT:NdS W ok B m d l:=⟨vs,hvs,hlen,hr⟩;have hk:=jd4 (.mk k x a e l);have hF:=(ja6 W (.int .i64 k) (.string (bs x)) (.int .i64 a) (.int .i64 e) (.slice B m d) 25).keep (jak (Below.refl _ _) (.cells #[.int .i64 off] 3));have hC:=oneF_new (W.alloc (.cells #[.int .i64 k,.string (bs x),.int .i64 a,.int .i64 e,.slice B m d] 25)) (.int .i64 off) 3;have hb1:=jak (jak (Below.refl W.heap.size W) (.cells #[.int .i64 k,.string (bs x),.int .i64 a,.int .i64 e,.slice B m d] 25)) (.cells #[.int .i64 off] 3);(have s1:(W.alloc (.cells #[.int .i64 k,.string (bs x),.int .i64 a,.int .i64 e,.slice B m d] 25)).heap.size=W.heap.size+1:=by simp);rw[s1] at hC;obtain ⟨w1,hw1⟩:=jx ((W.alloc (.cells #[.int .i64 k,.string (bs x),.int .i64 a,.int .i64 e,.slice B m d] 25)).alloc (.cells #[.int .i64 off] 3));(have hs1:w1.heap.size=W.heap.size+1+1:=by rw[←hw1];simp);rw[hw1] at hF hC hb1;have hb2:=jak (Below.refl w1.heap.size w1) (.cells #[.int .i64 k,.string (bs x),.int .i64 a,.int .i64 e,.slice B m d] 25);have hL:=jmw (w:=w1) (B:=0) (q:=fun g=>g<w1.heap.size) (Nat.zero_le _) (((hT.map (ok':=fun g=>g<W.heap.size) (W':=W) (fun _ _ _=>rfl) (fun g _ hl=>hl)).kept hb1).node k a e x |>.map (fun _ _ _=>rfl) (fun g hg _=>by have:=hb1.size;omega)) (W.heap.size+1+1) hs1.symm;obtain ⟨w2,hw2⟩:=jx (w1.alloc (.cells #[.int .i64 k,.string (bs x),.int .i64 a,.int .i64 e,.slice B m d] 25));rw[hw2] at hb2 hL;have HW1:=jj hw1;have HW2:=jj hw2;have HS1:=jj hs1;have HB:=jj (bgo hb1 hb2);have HC:=jj (hC.keep hb2);have HN:=jj (show NdS w2 (fun g=>g<w2.heap.size) (some ⟨W.heap.size+1+1,0,none⟩) 1 1 [.mk k x a e l] from hL.nds.map (fun _ _ _=>rfl) (fun g _ hl=>hl));have H9:=jj h9;obtain ⟨-,t0,t1,t2,t3,t4⟩:=hF;obtain ⟨R,hR⟩:=jx (jcz off (.mk k x a e l));have HR:=jj hR;have hlen9:=jmp off (.mk k x a e l);rw[hR] at hlen9 ⊢;have HLe:=jj hlen9;clear hT hvs hlen hr hC hb1 hb2 hw1 hw2 hs1 hL s1 h9 hk hR hlen9;go_enter Tryz.func27,Tryz.ntmps27;go_upto_region 3 with fail;rw[HW1.out];go_wp2_with fail;rw[HW2.out,HS1.out];clear t0 t1 t2 t3 t4 HW1 HW2
  go_loopw [6,7] (fun u z wr=>∃(acc ys:List Nd) (yA:Option Addr) (ym yd:Nat),z=.slice yA ym yd∧OwnQ wr w2.heap.size (fun g=>g<w2.heap.size) u acc∧NdS wr (fun g=>g<w2.heap.size) yA ym yd ys∧acc++jcv off ys=R∧(∀y∈acc,sizeN y≤1000000000)∧(∀y∈ys,sizeN y≤1000000000)∧Below w2.heap.size w2 wr) (fun u _ _=>sizeN (.mk k x a e l) - lenV u)
  case atStart=>exact ⟨[],[.mk k x a e l],_,_,_,rfl,OwnQ.nil _ _ _,HN.out,by rw[List.nil_append,aroundL_one,HR.out],fun y hy=>(by cases hy),fun y hy=>(by rw[List.mem_singleton] at hy;subst hy;exact H9.out),Below.refl _ _⟩
  case round =>
    obtain ⟨acc,ys,yA,ym,yd,rfl,ho,hn,hacc,hz1',hz2',hb⟩:=hrel;obtain ⟨w3,hw3⟩:∃w3,w3=wr:=⟨wr,rfl⟩;subst hw3;obtain ⟨A3,m3,d3,vs3,rfl,-⟩:=ho.s (fun _=>True) (fun _ _=>trivial) (fun _ _ _=>trivial);have hl3:=ho.len;have O3:=jj ho;have N3:=jj hn;have B3:=jj hb;have Ha:=jj hacc;have Hz1:=jj hz1';have Hz2:=jj hz2';have HIx:=jj (pindex off (W.heap.size+1) hn (Nat.lt_of_lt_of_le HC.out.1 hb.size) ((hb.cell (p:=⟨W.heap.size+1,0,none⟩) HC.out.1).trans HC.out.2.1));have Hm3:=jj hl3.1;have hmd3:=hl3.2.1;have hdd3:=hl3.2.2;have hld:=hn.len;have hmy:=hld.2.1;have hdy:=hld.2.2;clear HN ho hn hb hacc hz1' hz2' hl3 hld;go_wp2_with fail;(with_reducible refine HIx.out.mono ?_);rintro e4 w4 ⟨hb4,hr4⟩;have B4:=jj (B3.out.trans (hb4.mono B3.out.size));have O4:=jj (O3.out.below hb4);have N4:=jj (N3.out.kept hb4);clear hb4 HIx;rcases hr4 with ⟨rfl,hno⟩ | ⟨i,y,rfl,him,hy,hc,hno⟩
    · have HE:=jj (show acc=R by rw[←Ha.out,aroundL_zero hno,List.append_nil]);have HAp:=jj (papart O4.out.nds Hz1.out);clear hno;go_wp2_with fail;(with_reducible refine HAp.out.mono ?_);rintro e5 w5 ⟨A5,m5,d5,rfl,hs5,hb5⟩;have S5:=jj hs5;have B5:=jj ((bgo HB.out B4.out).trans (hb5.mono (bgo HB.out B4.out).size));clear hs5 hb5;go_wp2;go_ret;exact ⟨A5,m5,d5,rfl,by rw[←HE.out];exact S5.out,B5.out⟩
    · have hi0':decide ((i:Int)<0)=false:=decide_eq_false (by omega);(have him':(i:Int)<(ym:Int):=by omega);obtain ⟨g,o,y',qA,qm,qd,rfl,hy',rq,x0,x1,x2,x3,x4⟩:=N4.out.at_ him;rw[hy] at hy';cases hy';have HFst:=jj (aroundL_first hy hc hno);have Ha2:=jj (show (acc++[y])++jcv off y.kids=R by rw[←Ha.out,HFst.out,List.append_assoc];rfl)
      have HLa:=jj (show acc.length+1≤sizeN (.mk k x a e l) by
        have h1:=congrArg List.length Ha2.out;rw[List.length_append,List.length_append,List.length_singleton] at h1
        have:=HLe.out;omega)
      have hy9:sizeN y≤1000000000:=Hz2.out y (List.mem_of_getElem? hy)
      have Hz3:=jj (show ∀z∈acc++[y],sizeN z≤1000000000 from fun z hz=>by
        rcases List.mem_append.1 hz with h | h
        · exact Hz1.out z h
        · rw[List.mem_singleton] at h;subst h;exact hy9)
      have Hz4:=jj (show ∀z∈y.kids,sizeN z≤1000000000 from fun z hz=>by
        obtain ⟨j,hj⟩:=List.getElem?_of_mem hz;have h1:=(jdj hj).2;have h2:=jd4 y
        omega)
      have HZ:=jj ((jb7 rq).map (W':=w4) (ok':=fun g=>g<w2.heap.size∧(Value.slice A3 m3 d3).ownBlock≠some g) (fun _ _ _=>rfl) (fun g hg _=>⟨hg,fun he=>by have:=(O4.out.base he).1;omega⟩));have HBs:=jj B4.out.size;(have hR9:acc.length+1≤1000000000:=by have:=HLa.out;have:=H9.out;omega);clear hno hy hc rq hy9;go_wp2_with (at_builtin;refine je7 rfl (.tmp 26) (.tmp 31) 23 rfl i0 _ 64 Tryz.underlying23 hi0 hz0 hz1 hz2 rfl w2.heap.size (fun g=>g<w2.heap.size) (.slice A3 m3 d3) acc rfl w4 _ _ _ _ _ y O4.out HBs.out _ rfl rfl HZ.out (by omega) (by unfold maxLen;omega) ?_);intro v5 w5 ho5 b5 far5;obtain ⟨A5,m5,d5,vs5,rfl,-⟩:=ho5.s (fun _=>True) (fun _ _=>trivial) (fun _ _ _=>trivial);have hl5:=ho5.len;(have hm5:m5=acc.length+1:=by rw[hl5.1];simp);obtain ⟨g5,o5,y5,q5,r5,s5,rfl,hy5,rs5,z0,z1,z2,z3,z4⟩:=ho5.at_ (show acc.length<m5 by omega)
      have hyy:y5=y:=by
        rw[List.getElem?_append_right (Nat.le_refl _),Nat.sub_self] at hy5;cases hy5;rfl
      subst hyy;have O5:=jj ho5;have B5:=jj (B4.out.trans b5);have N5:=jj rs5;obtain ⟨J,hJ⟩:=jx (acc.length);rw[hJ] at z4 hm5 hR9 HLa;have HMe:=jj (show lenV (.slice A3 m3 d3)=J by rw[←hJ,←Hm3.out];rfl);have HMf:=jj (show lenV (.slice (some ⟨g5,o5,none⟩) m5 d5)=J+1 by rw[←hm5];rfl);(have dJ:(m5:Int) - 1=(J:Int):=by omega);(have dJ2:(J:Int)<(m5:Int):=by omega);(have dJ3:(0:Int)≤(J:Int):=by omega);have dm5:=hl5.2.1;have dd5:=hl5.2.2;clear ho5 b5 far5 hl5 hm5 hy5 rs5 z0 z1 z2 z3 hJ x0 x1 x2 x3 x4;go_wp2;go_roundw
      case rel=>exact ⟨acc++[y5],y5.kids,q5,r5,s5,rfl,O5.out,N5.out,Ha2.out,Hz3.out,Hz4.out,B5.out⟩
      case measure=>rw[HMe.out,HMf.out];have:=HLa.out;omega
end
section
open Go.RowKit
def ElC (N:Nat) (p:Nat) (f:Nd→Option (List Tk)) (y:Nd):Prop:=∀(W:World) (u:Value) (L:List Tk) (v:Value),ShS p W u L→NdV W (fun g=>g<p) v y→L.length+2*sizeN y≤1999999999→Calls Tryz.prog N #[.pointer (some ⟨p,0,none⟩),v] W (ExG p W u L (f y))
def Runs (N:Nat):Prop:=∀(xs:Array Value) (W:World),(callFunc N xs).run Tryz.prog W=.ok (.enter N xs) W
theorem NdS.lowP {W W':World} {p:Nat} {A:Option Addr} {m d:Nat} {l:List Nd} (h:NdS W (fun g=>g<p) A m d l) (hb:Below p W W'):NdS W' (fun g=>g<p) A m d l:=h.belowB (fun _ hg=>hg) hb
theorem pkids {N:Nat} (hrun:Runs N) {f:Nd→Option (List Tk)} {p:Nat} {W:World} {u:Value} {L:List Tk} (hS:ShS p W u L) {B:Option Addr} {m d:Nat} {l:List Nd} (hT:NdS W (fun g=>g<p) B m d l)
    (hp:∀y∈l,ElC N p f y) (hfl:∀y∈l,∀ts,f y=some ts→ts.length≤2*sizeN y) (hL:L.length+2*ja8 l≤1999999999) (least:Nat) (hi:Int) (most:Option Nat) (hle:least≤10) (hmo:∀k,most=some k→k≤10) (hm:hi=mostV most) :
    Calls Tryz.prog 87 #[.pointer (some ⟨p,0,none⟩),.slice B m d,.int .i64 (least:Int),.int .i64 hi,.func (.func N) #[] #[]] W (ExG p W u L (jeh f l least most)):=by
  obtain ⟨r,hr⟩:=jx (jeh f l least most);rw[hr];have hl:=hT.len;have hmd:=hl.2.1;have hdd:=hl.2.2;have HLe:=jj hl.1;have HT:=jj hT;have HS:=jj hS;have HP:=jj hp;have HFL:=jj hfl;have HL:=jj hL;have hcf:=hrun;unfold Runs at hcf;clear hl hT hS hp hfl hL hrun;(have hbad:¬(least≤m∧jmk most m=true)→none=r:=fun h=>by rw[←hr];unfold jeh;rw[HLe.out,if_neg h]);(have hgood:(least≤m∧jmk most m=true)→shG f l=r:=fun h=>by rw[←hr];unfold jeh;rw[HLe.out,if_pos h]);clear hr;by_cases hlm:least≤m
  case neg =>
    (have q1:(m:Int)<(least:Int):=by omega);obtain rfl:=hbad (fun h=>hlm h.1);clear hlm hbad hgood hm;go_enter Tryz.func87,Tryz.ntmps87;go_wp2;go_ret;exact ⟨u,L,HS.out,ShF.refl _ _ _,rfl⟩
  (have q1:¬(m:Int)<(least:Int):=by omega);by_cases hmm:jmk most m=true
  case neg =>
    have q2:(m:Int) > hi:=by
      cases most with
      | none=>exact absurd rfl hmm
      | some k =>
        have h1:¬m≤k:=fun h=>hmm (by unfold jmk;exact decide_eq_true h);rw[hm];show (m:Int) > (k:Int);omega
    obtain rfl:=hbad (fun h=>hmm h.2);clear hlm hmm hbad hgood hm;go_enter Tryz.func87,Tryz.ntmps87;go_wp2;go_ret;exact ⟨u,L,HS.out,ShF.refl _ _ _,rfl⟩
  have q2:¬(m:Int) > hi:=by
    cases most with
    | none=>rw[hm];show ¬(m:Int) > 9223372036854775807;omega
    | some k =>
      have h1:m≤k:=of_decide_eq_true hmm;rw[hm];show ¬(m:Int) > (k:Int);omega
  have HG:=jj (hgood ⟨hlm,hmm⟩);clear hlm hmm hbad hgood hm;go_enter Tryz.func87,Tryz.ntmps87;go_wp2_with fail
  go_loopw [25] (fun y wr=>∃(i:Nat) (u':Value) (ts:List Tk),i≤m∧y=.int .i64 (i:Int)∧shG f (l.take i)=some ts∧(L++ts).length+2*ja8 (l.drop i)≤1999999999∧ShS p wr u' (L++ts)∧ShF p W wr u u') (fun y _=>m - (intOf y).toNat)
  case atStart=>exact ⟨0,u,[],Nat.zero_le _,rfl,rfl,by rw[List.append_nil];exact HL.out,by rw[List.append_nil];exact HS.out,ShF.refl _ _ _⟩
  case round =>
    obtain ⟨i,u1,ts,hi',rfl,hg,hlen,hs,hf⟩:=hrel;obtain ⟨w3,hw3⟩:∃w3,w3=wr:=⟨wr,rfl⟩;subst hw3;by_cases hlt:i<m
    · (have hii:(i:Int)<(m:Int):=by omega);obtain ⟨g,o,y,yA,ym,yd,rfl,hy,ry,x0,x1,x2,x3,x4⟩:=(HT.out.lowP hf.below).at_ hlt;have bk:=jak (Below.refl _ w3) (.cells #[.int .i64 y.kind,.string (bs y.text),.int .i64 y.at_,.int .i64 y.en,.slice yA ym yd] 25);obtain ⟨w4,hw4⟩:=jx (w3.alloc (.cells #[.int .i64 y.kind,.string (bs y.text),.int .i64 y.at_,.int .i64 y.en,.slice yA ym yd] 25));have h5:=ja6 w3 (.int .i64 y.kind) (.string (bs y.text)) (.int .i64 y.at_) (.int .i64 y.en) (.slice yA ym yd) 25;rw[hw4] at bk h5;have hsz:=jbp hy;have hmem:=List.mem_of_getElem? hy;have HC:=jj (HP.out y hmem w4 u1 (L++ts) _ (hs.go bk) ((jb7 ry).kept bk) (by omega));have HF4:=jj (hf.trans (ShF.of (Nat.le_of_lt hs.lt) bk u1));obtain ⟨-,t0,t1,t2,t3,t4⟩:=h5;obtain ⟨fy,hfy⟩:=jx (f y);rw[hfy] at HC;have Hw4:=jj hw4
      cases fy with
      | none =>
        have Hn:=jj (show none=r by rw[←HG.out,shG_none hmem hfy]);clear hs hf hg hlen hy ry bk hsz hmem hfy hw4;go_wp2_with (rw[Hw4.out]);go_wp2_with fail;(with_reducible refine HC.out.mono ?_);rintro e5 w5 ⟨u5,L5,s5,f5,rfl⟩;have S5:=jj s5;have F5:=jj f5;clear s5 f5;go_wp2;go_ret;obtain rfl:=Hn.out;exact ⟨u5,L5,S5.out,HF4.out.trans F5.out,rfl⟩
      | some t =>
        have Hg:=jj (shG_snoc hy hg hfy);have hfl:=HFL.out y hmem t hfy;have Hl:=jj (show (L++(ts++t)).length+2*ja8 (l.drop (i+1))≤1999999999 by rw[←List.append_assoc,List.length_append];omega);clear hs hf hg hlen hy ry bk hsz hmem hfy hw4 hfl;go_wp2_with (rw[Hw4.out]);go_wp2_with fail;(with_reducible refine HC.out.mono ?_);rintro e5 w5 ⟨u5,L5,s5,f5,rfl,hL5⟩;have S5:=jj (show ShS p w5 u5 (L++(ts++t)) by rw[←List.append_assoc,←hL5];exact s5);have F5:=jj (HF4.out.trans f5);clear s5 f5 hL5;go_wp2;go_roundw
        case rel=>exact ⟨i+1,u5,ts++t,by omega,by go_num,Hg.out,Hl.out,S5.out,F5.out⟩
        case measure=>simp[intOf];omega
    · (have hii:¬(i:Int)<(m:Int):=by omega);have Hn:=jj (show some ts=r by rw[←HG.out,←hg,List.take_of_length_le (by rw[HLe.out];omega)]);have S5:=jj hs;have F5:=jj hf;clear hs hf hg hlen;go_wp2;go_ret;obtain rfl:=Hn.out;exact ⟨u1,L++ts,S5.out,F5.out,rfl,rfl⟩
theorem pleaf (K:Int) {k a e:Int} {x:List UInt8} {B:Option Addr} {m d:Nat} {l:List Nd} (hlen:l.length=m) (hd:d≤9223372036854775807) (hmd:m≤d) {p:Nat} {W:World} {u:Value} {L:List Tk} (hS:ShS p W u L) (hL:L.length≤1999999999) :
    Calls Tryz.prog 135 #[.pointer (some ⟨p,0,none⟩),.agg #[.int .i64 k,.string (bs x),.int .i64 a,.int .i64 e,.slice B m d],.int .i64 K] W (ExG p W u L (lfO K x l)):=by
  obtain ⟨r,hr⟩:=jx (lfO K x l);rw[hr];have HR:=jj hr;have HLe:=jj hlen;have hb1:=jak (Below.refl W.heap.size W) (.cells #[.int .i64 k,.string (bs x),.int .i64 a,.int .i64 e,.slice B m d] 25);have hF:=ja6 W (.int .i64 k) (.string (bs x)) (.int .i64 a) (.int .i64 e) (.slice B m d) 25;obtain ⟨w1,hw1⟩:=jx (W.alloc (.cells #[.int .i64 k,.string (bs x),.int .i64 a,.int .i64 e,.slice B m d] 25));rw[hw1] at hb1 hF;have HB:=jj hb1;have HW:=jj hw1;have HF:=jj hF;have S1:=jj (hS.go hb1);have F1:=jj (ShF.of (Nat.le_of_lt hS.lt) hb1 u);(have hnp:W.heap.size≠p:=fun e=>by have:=hS.lt;omega);have hno:u.ownBlock≠some W.heap.size:=hS.notown (Nat.le_refl _);obtain ⟨-,t0,t1,t2,t3,t4⟩:=hF;have HC:=jj (pexpect K (bs x) x rfl S1.out (by omega));clear hS hw1 hb1 hr hlen;go_enter Tryz.func135,Tryz.ntmps135;go_upto_region 1 with fail;rw[HW.out];go_wp2_with fail;(with_reducible refine HC.out.mono ?_);rintro e2 w2 ⟨u2,rfl,s2,f2⟩;obtain ⟨-,z0,z1,z2,z3,z4⟩:=HF.out.shf f2 hnp hno;have S2:=jj s2;have F2:=jj f2;clear s2 f2 t0 t1 t2 t3 t4;by_cases hm0:m=0
  · have q1:((m:Int)==0)=true:=beq_iff_eq.2 (by omega);have Hn:=jj (show some [tk1 K x]=r by rw[←HR.out];unfold lfO;rw[if_pos (by rw[HLe.out];exact hm0)]);clear hm0;go_wp2;go_ret;obtain rfl:=Hn.out;exact ⟨u2,_,S2.out,F1.out.trans F2.out,rfl,rfl⟩
  · have q1:((m:Int)==0)=false:=beq_eq_false_iff_ne.2 (by omega);have Hn:=jj (show none=r by rw[←HR.out];unfold lfO;rw[if_neg (by rw[HLe.out];exact hm0)]);clear hm0;go_wp2;go_ret;obtain rfl:=Hn.out;exact ⟨u2,_,S2.out,F1.out.trans F2.out,rfl⟩
theorem pnamed (n:Nat) (hn9:n≤10) {k a e:Int} {x:List UInt8} {B:Option Addr} {m d:Nat} {l:List Nd} (hlen:l.length=m) (hd:d≤9223372036854775807) (hmd:m≤d) {p:Nat} {W:World} {u:Value} {L:List Tk} (hS:ShS p W u L) (hL:L.length≤1999999999) :
    Calls Tryz.prog 136 #[.pointer (some ⟨p,0,none⟩),.agg #[.int .i64 k,.string (bs x),.int .i64 a,.int .i64 e,.slice B m d],.int .i64 (n:Int)] W (ExG p W u L (nmO x l n)):=by
  obtain ⟨r,hr⟩:=jx (nmO x l n);rw[hr];have HR:=jj hr;have HLe:=jj hlen;have hb1:=jak (Below.refl W.heap.size W) (.cells #[.int .i64 k,.string (bs x),.int .i64 a,.int .i64 e,.slice B m d] 25);have hF:=ja6 W (.int .i64 k) (.string (bs x)) (.int .i64 a) (.int .i64 e) (.slice B m d) 25;obtain ⟨w1,hw1⟩:=jx (W.alloc (.cells #[.int .i64 k,.string (bs x),.int .i64 a,.int .i64 e,.slice B m d] 25));rw[hw1] at hb1 hF;have HB:=jj hb1;have HW:=jj hw1;have HF:=jj hF;have S1:=jj (hS.go hb1);have F1:=jj (ShF.of (Nat.le_of_lt hS.lt) hb1 u);(have hnp:W.heap.size≠p:=fun e=>by have:=hS.lt;omega);have hno:u.ownBlock≠some W.heap.size:=hS.notown (Nat.le_refl _);obtain ⟨-,t0,t1,t2,t3,t4⟩:=hF;have HC:=jj (pexpect 1 (bs x) x rfl S1.out (by omega));clear hS hw1 hb1 hr hlen;go_enter Tryz.func136,Tryz.ntmps136;go_upto_region 1 with fail;rw[HW.out];go_wp2_with fail;(with_reducible refine HC.out.mono ?_);rintro e2 w2 ⟨u2,rfl,s2,f2⟩;obtain ⟨-,z0,z1,z2,z3,z4⟩:=HF.out.shf f2 hnp hno;have S2:=jj s2;have F2:=jj f2;clear s2 f2 t0 t1 t2 t3 t4;by_cases hm0:m=n
  · have q1:((m:Int)==(n:Int))=true:=beq_iff_eq.2 (by omega);have Hn:=jj (show some [tk1 1 x]=r by rw[←HR.out];unfold nmO;rw[if_pos (by rw[HLe.out];exact hm0)]);clear hm0;go_wp2;go_ret;obtain rfl:=Hn.out;exact ⟨u2,_,S2.out,F1.out.trans F2.out,rfl,rfl⟩
  · have q1:((m:Int)==(n:Int))=false:=beq_eq_false_iff_ne.2 (by omega);have Hn:=jj (show none=r by rw[←HR.out];unfold nmO;rw[if_neg (by rw[HLe.out];exact hm0)]);clear hm0;go_wp2;go_ret;obtain rfl:=Hn.out;exact ⟨u2,_,S2.out,F1.out.trans F2.out,rfl⟩
end
end Go.Proofs.YtonoklmobocikaaGreatDoor
