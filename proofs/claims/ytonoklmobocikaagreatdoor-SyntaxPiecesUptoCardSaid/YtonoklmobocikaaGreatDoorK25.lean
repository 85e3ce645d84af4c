/- Lemmas. -/
import Derived.Test.YtonoklmobocikaaGreatDoorK24
set_option linter.unusedVariables false
set_option linter.unusedSimpArgs false
set_option maxRecDepth 20000
set_option maxHeartbeats 6400000
namespace Go.Proofs.YtonoklmobocikaaGreatDoor
section
open Go.RowKit
theorem xhb {L:List Tk} {l:List Nd} (h:L.length+2*(ja8 l+1)≤1999999999):(L++[]).length+2*(ja8 l+1)≤1999999999:=by
  rw[List.append_nil];exact h
theorem xs1 {p:Nat} {W w1:World} {u:Value} {L:List Tk} (hS:ShS p W u L) (hb1:Below W.heap.size W w1):ShS p w1 u (L++[]):=by
  rw[List.append_nil];exact hS.go hb1
theorem xnp {p:Nat} {W:World} {u:Value} {L:List Tk} (hS:ShS p W u L):W.heap.size≠p:=fun e=>by
  have:=hS.lt;omega
theorem jig:Runs 210:=fun xs W=>by kernel_rfl
theorem jli:Runs 138:=fun xs W=>by kernel_rfl
theorem runs_param:Runs 211:=fun xs W=>by kernel_rfl
theorem jmd:Runs 212:=fun xs W=>by kernel_rfl
theorem runs_stmt:Runs 225:=fun xs W=>by kernel_rfl
theorem jlj:Runs 89:=fun xs W=>by kernel_rfl
theorem runs_member:Runs 139:=fun xs W=>by kernel_rfl
theorem runs_sig:Runs 140:=fun xs W=>by kernel_rfl
def elN:Wh→Option Nat
  | .expr=>some 210
  | .typ=>some 138
  | .types=>some 138
  | .param=>some 211
  | .block=>some 212
  | .stmt=>some 225
  | .decl=>some 89
  | .member=>some 139
  | .sig=>some 140
  | .arg=>none
  | .lst _ _ _=>none
def AllC (y:Nd):Prop:=∀(p:Nat) (w:Wh) (N:Nat),elN w=some N→ElC N p (fun n=>shO n w) y
theorem AllC.at_ {y:Nd} (h:AllC y) (p:Nat) (w:Wh) {N:Nat} (hN:elN w=some N) {W:World} {u:Value} {L:List Tk} {v:Value} (hS:ShS p W u L) (hv:NdV W (fun g=>g<p) v y) (hL:L.length+2*sizeN y≤1999999999) :
    Calls Tryz.prog N #[.pointer (some ⟨p,0,none⟩),v] W (ExG p W u L (shO y w)):=h p w N hN W u L v hS hv hL
theorem ji0 {x:List UInt8} {l:List Nd} {n:Nat} {t:List Tk} (h:nmO x l n=some t):l.length=n∧t.length=1:=by
  unfold nmO at h;split at h
  · rename_i h1;cases h;exact ⟨h1,rfl⟩
  · cases h
theorem op_lev (x:List UInt8):opOk x=decide (0<jfc x):=by
  rcases jfb x with rfl | rfl | rfl | rfl | rfl | rfl | rfl | rfl | rfl | rfl | rfl | h
  all_goals first
    | rfl
    | (obtain ⟨h0,h⟩:=h
       rw[h0];show opOk x=false;unfold opOk jkl
       simp[h])
theorem jkw (n:Nat) (hn9:n≤10) (K:Int) (hK:K=(n:Int)) {k a e:Int} {x:List UInt8} {B:Option Addr} {m d:Nat} {l:List Nd} (hlen:l.length=m) (hd:d≤9223372036854775807) (hmd:m≤d) {p:Nat} {W:World} {u:Value} {L:List Tk} (hS:ShS p W u L) (hL:L.length≤1999999999) :
    Calls Tryz.prog 136 #[.pointer (some ⟨p,0,none⟩),.agg #[.int .i64 k,.string (bs x),.int .i64 a,.int .i64 e,.slice B m d],.int .i64 K] W (ExG p W u L (nmO x l n)):=by
  rw[hK];exact pnamed n hn9 hlen hd hmd hS hL
theorem jhl {N:Nat} (hrun:Runs N) {f:Nd→Option (List Tk)} {p:Nat} {W:World} {u:Value} {L:List Tk} (hS:ShS p W u L) {B:Option Addr} {m d:Nat} {l:List Nd} (hT:NdS W (fun g=>g<p) B m d l)
    (hp:∀y∈l,ElC N p f y) (hfl:∀y∈l,∀ts,f y=some ts→ts.length≤2*sizeN y) (hL:L.length+2*ja8 l≤1999999999) (least:Nat) (lo:Int) (hlo:lo=(least:Int)) (hi:Int) (most:Option Nat) (hle:least≤10) (hmo:∀k,most=some k→k≤10) (hm:hi=mostV most) :
    Calls Tryz.prog 87 #[.pointer (some ⟨p,0,none⟩),.slice B m d,.int .i64 lo,.int .i64 hi,.func (.func N) #[] #[]] W (ExG p W u L (jeh f l least most)):=by
  rw[hlo];exact pkids hrun hS hT hp hfl hL least hi most hle hmo hm
theorem pplain (n:Nat) {k a e:Int} {x:List UInt8} {B:Option Addr} {m d:Nat} {l:List Nd} (hlen:l.length=m) (hd:d≤9223372036854775807) (hmd:m≤d) (K:Int) (hK:K=(n:Int)) (W:World) :
    Calls Tryz.prog 236 #[.agg #[.int .i64 k,.string (bs x),.int .i64 a,.int .i64 e,.slice B m d],.int .i64 K] W fun e' w'=>e'=.returned (.bool (decide (x=[]∧m=n)))∧Below W.heap.size W w':=by
  obtain ⟨q,hq⟩:=jx (decide (x=[]∧m=n));rw[hq];have HQ:=jj hq;have HB:=jj (jak (Below.refl W.heap.size W) (.cells #[.int .i64 k,.string (bs x),.int .i64 a,.int .i64 e,.slice B m d] 25));clear hq;by_cases hx:x=[]
  · (have q1:((bs x).toList==[])=true:=by rw[Lib.toList_data,jac];exact beq_iff_eq.2 hx);by_cases hm:m=n
    · have q2:((m:Int)==K)=true:=beq_iff_eq.2 (by omega);have Hn:=jj (show true=q by rw[←HQ.out,decide_eq_true ⟨hx,hm⟩]);clear hx hm hK;go_enter Tryz.func236,Tryz.ntmps236;go_wp2;go_ret;exact ⟨ja1 Hn.out,HB.out⟩
    · have q2:((m:Int)==K)=false:=beq_eq_false_iff_ne.2 (by omega);have Hn:=jj (show false=q by rw[←HQ.out,decide_eq_false (fun h=>hm h.2)]);clear hx hm hK;go_enter Tryz.func236,Tryz.ntmps236;go_wp2;go_ret;exact ⟨ja1 Hn.out,HB.out⟩
  · (have q1:((bs x).toList==[])=false:=by rw[Lib.toList_data,jac];exact beq_eq_false_iff_ne.2 hx);have Hn:=jj (show false=q by rw[←HQ.out,decide_eq_false (fun h=>hx h.1)]);clear hx hK;go_enter Tryz.func236,Tryz.ntmps236;go_wp2;go_ret;exact ⟨ja1 Hn.out,HB.out⟩
theorem jmj {N:Nat} (hrun:Runs N) {f:Nd→Option (List Tk)} {p:Nat} {W:World} {u:Value} {L:List Tk} (hS:ShS p W u L) {B:Option Addr} {m d:Nat} {y:Nd} (hT:NdS W (fun g=>g<p) B m d y.kids)
    (hp:∀z∈y.kids,ElC N p f z) (hfl:∀z∈y.kids,∀ts,f z=some ts→ts.length≤2*sizeN z) (hL:L.length+2*ja8 y.kids≤1999999999) (least:Nat) (lo:Int) (hlo:lo=(least:Int)) (hi:Int) (most:Option Nat) (hle:least≤10) (hmo:∀k,most=some k→k≤10) (hm:hi=mostV most) :
    Calls Tryz.prog 137 #[.pointer (some ⟨p,0,none⟩),.agg #[.int .i64 y.kind,.string (bs y.text),.int .i64 y.at_,.int .i64 y.en,.slice B m d],.int .i64 lo,.int .i64 hi,.func (.func N) #[] #[]] W (ExG p W u L (lstO f y least most)):=by
  obtain ⟨r,hr⟩:=jx (lstO f y least most);rw[hr];have HR:=jj hr;have hb1:=jak (Below.refl W.heap.size W) (.cells #[.int .i64 y.kind,.string (bs y.text),.int .i64 y.at_,.int .i64 y.en,.slice B m d] 25);have hF:=ja6 W (.int .i64 y.kind) (.string (bs y.text)) (.int .i64 y.at_) (.int .i64 y.en) (.slice B m d) 25;obtain ⟨w1,hw1⟩:=jx (W.alloc (.cells #[.int .i64 y.kind,.string (bs y.text),.int .i64 y.at_,.int .i64 y.en,.slice B m d] 25));rw[hw1] at hb1 hF;have HW:=jj hw1;have S1:=jj (hS.go hb1);have F1:=jj (ShF.of (Nat.le_of_lt hS.lt) hb1 u);have HC:=jj (jhl hrun (hS.go hb1) (hT.kept hb1) hp hfl hL least lo hlo hi most hle hmo hm);have hmd:=hT.len.2.1;have hdd:=hT.len.2.2;obtain ⟨-,t0,t1,t2,t3,t4⟩:=hF;clear hr hw1 hb1 hS hT hp hfl hL hlo hm hle hmo hrun;by_cases hk:y.kind=24
  case neg =>
    have q1:(y.kind==24)=false:=beq_eq_false_iff_ne.2 hk;have Hn:=jj (show none=r by rw[←HR.out];unfold lstO;rw[if_neg (fun h=>hk h.1)]);clear hk;go_enter Tryz.func137,Tryz.ntmps137;go_upto_region 1 with fail;rw[HW.out];go_wp2;go_ret;obtain rfl:=Hn.out;exact ⟨_,_,S1.out,F1.out,rfl⟩
  by_cases hx:y.text=[]
  case neg =>
    have q1:(y.kind==24)=true:=beq_iff_eq.2 hk;(have q2:((bs y.text).toList==[])=false:=by rw[Lib.toList_data,jac];exact beq_eq_false_iff_ne.2 hx);have Hn:=jj (show none=r by rw[←HR.out];unfold lstO;rw[if_neg (fun h=>hx h.2)]);clear hk hx;go_enter Tryz.func137,Tryz.ntmps137;go_upto_region 1 with fail;rw[HW.out];go_wp2;go_ret;obtain rfl:=Hn.out;exact ⟨_,_,S1.out,F1.out,rfl⟩
  have q1:(y.kind==24)=true:=beq_iff_eq.2 hk;(have q2:((bs y.text).toList==[])=true:=by rw[Lib.toList_data,jac];exact beq_iff_eq.2 hx);have HR:=jj (show jeh f y.kids least most=r by rw[←HR.out];unfold lstO;rw[if_pos ⟨hk,hx⟩]);rw[HR.out] at HC;clear hk hx;go_enter Tryz.func137,Tryz.ntmps137;go_upto_region 1 with fail;rw[HW.out];go_wp2_with fail;(with_reducible refine HC.out.mono ?_);rintro e2 w2 ⟨u2,L2,s2,f2,h2⟩;have S2:=jj s2;have F2:=jj (F1.out.trans f2);clear s2 f2
  cases r with
  | none =>
    obtain rfl:=h2;go_wp2;go_ret;exact ⟨u2,L2,S2.out,F2.out,rfl⟩
  | some t =>
    obtain ⟨rfl,h3⟩:=h2;have H3:=jj h3;clear h3;go_wp2;go_ret;exact ⟨u2,L2,S2.out,F2.out,rfl,H3.out⟩
theorem hx_no (k a e:Int) (x:List UInt8) (l:List Nd) (n15:k≠15) (n16:k≠16) (n17:k≠17) (n18:k≠18) (n19:k≠19) (n20:k≠20) (n21:k≠21) (n22:k≠22) (n23:k≠23):shO (.mk k x a e l) .expr=none:=by
  unfold shO;simp[n15,n16,n17,n18,n19,n20,n21,n22,n23]
theorem tx_15 {a e:Int} {x:List UInt8} {l:List Nd} {B:Option Addr} {m d:Nat} (hx:x.length≤9223372036854775807) (hp:∀y∈l,AllC y∧∀z∈y.kids,AllC z) {p:Nat} {W:World} {u:Value} {L:List Tk} (hS:ShS p W u L) (hv:NdS W (fun g=>g<p) B m d l) (hL:L.length+2*(ja8 l+1)≤1999999999) :
    Calls Tryz.prog 210 #[.pointer (some ⟨p,0,none⟩),.agg #[.int .i64 15,.string (bs x),.int .i64 a,.int .i64 e,.slice B m d]] W (ExG p W u L (shO (.mk 15 x a e l) .expr)):=by
  obtain ⟨r,hr⟩:=jx (shO (.mk 15 x a e l) .expr);rw[hr];rw[hx_15] at hr;have HQ:=jj (show jf0 [] (lfO 1 x l)=r by rw[jc4];exact hr);have hb1:=jak (Below.refl W.heap.size W) (.cells #[.int .i64 15,.string (bs x),.int .i64 a,.int .i64 e,.slice B m d] 25);have hF:=ja6 W (.int .i64 15) (.string (bs x)) (.int .i64 a) (.int .i64 e) (.slice B m d) 25;obtain ⟨w1,hw1⟩:=jx (W.alloc (.cells #[.int .i64 15,.string (bs x),.int .i64 a,.int .i64 e,.slice B m d] 25));rw[hw1] at hb1 hF;have hl:=hv.len;have hmd:=hl.2.1;have hdd:=hl.2.2;have HLe:=jj hl.1.symm;have HN:=jj (hv.kept hb1);have HB:=jj hb1;have HW:=jj hw1;have HF:=jj hF;have HP:=jj hp;have Hx:=jj hx;have S1:=jj (xs1 hS hb1);have F1:=jj (ShF.of (Nat.le_of_lt hS.lt) hb1 u);have G1:=jj (ShF.refl p w1 u);have Hb1:=jj (xhb hL);have hnp:=xnp hS;have hno:u.ownBlock≠some W.heap.size:=hS.notown (Nat.le_refl _);obtain ⟨-,t0,t1,t2,t3,t4⟩:=hF;clear hv hl hr hw1 hb1 hp hx hS hL;go_enter Tryz.func210,Tryz.ntmps210;go_upto_region 1 with fail;rw[HW.out];have HC0:=jj (pleaf 1 (k:=15) (a:=a) (e:=e) (x:=x) (B:=B) (l:=l) HLe.out.symm hdd hmd S1.out (by have:=Hb1.out;omega));obtain ⟨r0,hr0⟩:∃o,lfO 1 x l=o:=⟨_,rfl⟩;have HQ:=jj HQ.out;rw[hr0] at HC0 HQ;clear hr0;go_wp2_with fail;(with_reducible refine HC0.out.mono ?_);rintro e0 v0 ⟨u0,L0,s0,f0,hz0⟩;have G10:=jj (G1.out.trans f0)
  cases r0 with
  | none =>
    obtain rfl:=hz0;have S10:=jj s0;have Hn:=jj (show none=r by rw[←HQ.out];rfl);clear s0 f0;go_wp2;go_ret;obtain rfl:=Hn.out;exact ⟨_,_,S10.out,F1.out.trans G10.out,rfl⟩
  | some t0 =>
    obtain ⟨rfl,hL0⟩:=hz0;have S10:=jj (show ShS p v0 u0 (L++([]++t0)) by rw[←List.append_assoc,←hL0];exact s0);clear s0 f0 hL0;have Hn:=jj (show some ([]++t0)=r by rw[←HQ.out];rfl);go_wp2;go_ret;obtain rfl:=Hn.out;exact ⟨_,_,S10.out,F1.out.trans G10.out,rfl,rfl⟩
theorem tx_16 {a e:Int} {x:List UInt8} {l:List Nd} {B:Option Addr} {m d:Nat} (hx:x.length≤9223372036854775807) (hp:∀y∈l,AllC y∧∀z∈y.kids,AllC z) {p:Nat} {W:World} {u:Value} {L:List Tk} (hS:ShS p W u L) (hv:NdS W (fun g=>g<p) B m d l) (hL:L.length+2*(ja8 l+1)≤1999999999) :
    Calls Tryz.prog 210 #[.pointer (some ⟨p,0,none⟩),.agg #[.int .i64 16,.string (bs x),.int .i64 a,.int .i64 e,.slice B m d]] W (ExG p W u L (shO (.mk 16 x a e l) .expr)):=by
  obtain ⟨r,hr⟩:=jx (shO (.mk 16 x a e l) .expr);rw[hr];rw[hx_16] at hr;have HQ:=jj (show jf0 [] (lfO 3 x l)=r by rw[jc4];exact hr);have hb1:=jak (Below.refl W.heap.size W) (.cells #[.int .i64 16,.string (bs x),.int .i64 a,.int .i64 e,.slice B m d] 25);have hF:=ja6 W (.int .i64 16) (.string (bs x)) (.int .i64 a) (.int .i64 e) (.slice B m d) 25;obtain ⟨w1,hw1⟩:=jx (W.alloc (.cells #[.int .i64 16,.string (bs x),.int .i64 a,.int .i64 e,.slice B m d] 25));rw[hw1] at hb1 hF;have hl:=hv.len;have hmd:=hl.2.1;have hdd:=hl.2.2;have HLe:=jj hl.1.symm;have HN:=jj (hv.kept hb1);have HB:=jj hb1;have HW:=jj hw1;have HF:=jj hF;have HP:=jj hp;have Hx:=jj hx;have S1:=jj (xs1 hS hb1);have F1:=jj (ShF.of (Nat.le_of_lt hS.lt) hb1 u);have G1:=jj (ShF.refl p w1 u);have Hb1:=jj (xhb hL);have hnp:=xnp hS;have hno:u.ownBlock≠some W.heap.size:=hS.notown (Nat.le_refl _);obtain ⟨-,t0,t1,t2,t3,t4⟩:=hF;clear hv hl hr hw1 hb1 hp hx hS hL;go_enter Tryz.func210,Tryz.ntmps210;go_upto_region 1 with fail;rw[HW.out];have HC0:=jj (pleaf 3 (k:=16) (a:=a) (e:=e) (x:=x) (B:=B) (l:=l) HLe.out.symm hdd hmd S1.out (by have:=Hb1.out;omega));obtain ⟨r0,hr0⟩:∃o,lfO 3 x l=o:=⟨_,rfl⟩;have HQ:=jj HQ.out;rw[hr0] at HC0 HQ;clear hr0;go_wp2_with fail;(with_reducible refine HC0.out.mono ?_);rintro e0 v0 ⟨u0,L0,s0,f0,hz0⟩;have G10:=jj (G1.out.trans f0)
  cases r0 with
  | none =>
    obtain rfl:=hz0;have S10:=jj s0;have Hn:=jj (show none=r by rw[←HQ.out];rfl);clear s0 f0;go_wp2;go_ret;obtain rfl:=Hn.out;exact ⟨_,_,S10.out,F1.out.trans G10.out,rfl⟩
  | some t0 =>
    obtain ⟨rfl,hL0⟩:=hz0;have S10:=jj (show ShS p v0 u0 (L++([]++t0)) by rw[←List.append_assoc,←hL0];exact s0);clear s0 f0 hL0;have Hn:=jj (show some ([]++t0)=r by rw[←HQ.out];rfl);go_wp2;go_ret;obtain rfl:=Hn.out;exact ⟨_,_,S10.out,F1.out.trans G10.out,rfl,rfl⟩
theorem tx_17 {a e:Int} {x:List UInt8} {l:List Nd} {B:Option Addr} {m d:Nat} (hx:x.length≤9223372036854775807) (hp:∀y∈l,AllC y∧∀z∈y.kids,AllC z) {p:Nat} {W:World} {u:Value} {L:List Tk} (hS:ShS p W u L) (hv:NdS W (fun g=>g<p) B m d l) (hL:L.length+2*(ja8 l+1)≤1999999999) :
    Calls Tryz.prog 210 #[.pointer (some ⟨p,0,none⟩),.agg #[.int .i64 17,.string (bs x),.int .i64 a,.int .i64 e,.slice B m d]] W (ExG p W u L (shO (.mk 17 x a e l) .expr)):=by
  obtain ⟨r,hr⟩:=jx (shO (.mk 17 x a e l) .expr);rw[hr];rw[hx_17] at hr;have HQ:=jj (show jf0 [] (lfO 4 x l)=r by rw[jc4];exact hr);have hb1:=jak (Below.refl W.heap.size W) (.cells #[.int .i64 17,.string (bs x),.int .i64 a,.int .i64 e,.slice B m d] 25);have hF:=ja6 W (.int .i64 17) (.string (bs x)) (.int .i64 a) (.int .i64 e) (.slice B m d) 25;obtain ⟨w1,hw1⟩:=jx (W.alloc (.cells #[.int .i64 17,.string (bs x),.int .i64 a,.int .i64 e,.slice B m d] 25));rw[hw1] at hb1 hF;have hl:=hv.len;have hmd:=hl.2.1;have hdd:=hl.2.2;have HLe:=jj hl.1.symm;have HN:=jj (hv.kept hb1);have HB:=jj hb1;have HW:=jj hw1;have HF:=jj hF;have HP:=jj hp;have Hx:=jj hx;have S1:=jj (xs1 hS hb1);have F1:=jj (ShF.of (Nat.le_of_lt hS.lt) hb1 u);have G1:=jj (ShF.refl p w1 u);have Hb1:=jj (xhb hL);have hnp:=xnp hS;have hno:u.ownBlock≠some W.heap.size:=hS.notown (Nat.le_refl _);obtain ⟨-,t0,t1,t2,t3,t4⟩:=hF;clear hv hl hr hw1 hb1 hp hx hS hL;go_enter Tryz.func210,Tryz.ntmps210;go_upto_region 1 with fail;rw[HW.out];have HC0:=jj (pleaf 4 (k:=17) (a:=a) (e:=e) (x:=x) (B:=B) (l:=l) HLe.out.symm hdd hmd S1.out (by have:=Hb1.out;omega));obtain ⟨r0,hr0⟩:∃o,lfO 4 x l=o:=⟨_,rfl⟩;have HQ:=jj HQ.out;rw[hr0] at HC0 HQ;clear hr0;go_wp2_with fail;(with_reducible refine HC0.out.mono ?_);rintro e0 v0 ⟨u0,L0,s0,f0,hz0⟩;have G10:=jj (G1.out.trans f0)
  cases r0 with
  | none =>
    obtain rfl:=hz0;have S10:=jj s0;have Hn:=jj (show none=r by rw[←HQ.out];rfl);clear s0 f0;go_wp2;go_ret;obtain rfl:=Hn.out;exact ⟨_,_,S10.out,F1.out.trans G10.out,rfl⟩
  | some t0 =>
    obtain ⟨rfl,hL0⟩:=hz0;have S10:=jj (show ShS p v0 u0 (L++([]++t0)) by rw[←List.append_assoc,←hL0];exact s0);clear s0 f0 hL0;have Hn:=jj (show some ([]++t0)=r by rw[←HQ.out];rfl);go_wp2;go_ret;obtain rfl:=Hn.out;exact ⟨_,_,S10.out,F1.out.trans G10.out,rfl,rfl⟩
theorem tx_18 {a e:Int} {x:List UInt8} {l:List Nd} {B:Option Addr} {m d:Nat} (hx:x.length≤9223372036854775807) (hp:∀y∈l,AllC y∧∀z∈y.kids,AllC z) {p:Nat} {W:World} {u:Value} {L:List Tk} (hS:ShS p W u L) (hv:NdS W (fun g=>g<p) B m d l) (hL:L.length+2*(ja8 l+1)≤1999999999) :
    Calls Tryz.prog 210 #[.pointer (some ⟨p,0,none⟩),.agg #[.int .i64 18,.string (bs x),.int .i64 a,.int .i64 e,.slice B m d]] W (ExG p W u L (shO (.mk 18 x a e l) .expr)):=by
  obtain ⟨r,hr⟩:=jx (shO (.mk 18 x a e l) .expr);rw[hr];rw[hx_18] at hr;have HQ:=jj (show jf0 [] (jc9 (gd (jdu x)) (gd (decide (l.length=0))))=r by rw[jc4];exact hr);have hb1:=jak (Below.refl W.heap.size W) (.cells #[.int .i64 18,.string (bs x),.int .i64 a,.int .i64 e,.slice B m d] 25);have hF:=ja6 W (.int .i64 18) (.string (bs x)) (.int .i64 a) (.int .i64 e) (.slice B m d) 25;obtain ⟨w1,hw1⟩:=jx (W.alloc (.cells #[.int .i64 18,.string (bs x),.int .i64 a,.int .i64 e,.slice B m d] 25));rw[hw1] at hb1 hF;have hl:=hv.len;have hmd:=hl.2.1;have hdd:=hl.2.2;have HLe:=jj hl.1.symm;have HN:=jj (hv.kept hb1);have HB:=jj hb1;have HW:=jj hw1;have HF:=jj hF;have HP:=jj hp;have Hx:=jj hx;have S1:=jj (xs1 hS hb1);have F1:=jj (ShF.of (Nat.le_of_lt hS.lt) hb1 u);have G1:=jj (ShF.refl p w1 u);have Hb1:=jj (xhb hL);have hnp:=xnp hS;have hno:u.ownBlock≠some W.heap.size:=hS.notown (Nat.le_refl _);obtain ⟨-,t0,t1,t2,t3,t4⟩:=hF;clear hv hl hr hw1 hb1 hp hx hS hL;go_enter Tryz.func210,Tryz.ntmps210;go_upto_region 1 with fail;rw[HW.out];obtain ⟨b0,hb0⟩:∃b,jdu x=b:=⟨_,rfl⟩;have HC0:=jj (qconst x w1);have HQ:=jj HQ.out;rw[hb0] at HC0 HQ;clear hb0;go_wp2_with fail;(with_reducible refine HC0.out.mono ?_);rintro e0 v0 ⟨rfl,rfl⟩
  cases b0 with
  | false =>
    have Hn:=jj (show none=r by rw[←HQ.out];rfl);go_wp2;go_ret;obtain rfl:=Hn.out;exact ⟨_,_,S1.out,F1.out.trans G1.out,rfl⟩
  | true =>
    have HQ:=jj (show jf0 ([]) (gd (decide (l.length=0)))=r by rw[←HQ.out,jgd]);by_cases h1:m=0
    case neg =>
      have q1:((m:Int)==0)=false:=beq_eq_false_iff_ne.2 (by omega);have HQ:=jj HQ.out;have Hn:=jj (show none=r by rw[←HQ.out,show decide (l.length=0)=false from decide_eq_false (by rw[←HLe.out];exact h1)];rfl);clear h1;go_wp2;go_ret;obtain rfl:=Hn.out;exact ⟨_,_,S1.out,F1.out.trans G1.out,rfl⟩
    have q1:((m:Int)==0)=true:=beq_iff_eq.2 (by omega);have Hn:=jj (show some ([])=r by rw[←HQ.out,show decide (l.length=0)=true from decide_eq_true (by rw[←HLe.out];exact h1)];show some ([])=some ([]++[]);rw[List.append_nil]);clear h1;go_wp2;go_ret;obtain rfl:=Hn.out;exact ⟨_,_,S1.out,F1.out.trans G1.out,rfl,rfl⟩
theorem tx_19 {a e:Int} {x:List UInt8} {l:List Nd} {B:Option Addr} {m d:Nat} (hx:x.length≤9223372036854775807) (hp:∀y∈l,AllC y∧∀z∈y.kids,AllC z) {p:Nat} {W:World} {u:Value} {L:List Tk} (hS:ShS p W u L) (hv:NdS W (fun g=>g<p) B m d l) (hL:L.length+2*(ja8 l+1)≤1999999999) :
    Calls Tryz.prog 210 #[.pointer (some ⟨p,0,none⟩),.agg #[.int .i64 19,.string (bs x),.int .i64 a,.int .i64 e,.slice B m d]] W (ExG p W u L (shO (.mk 19 x a e l) .expr)):=by
  obtain ⟨r,hr⟩:=jx (shO (.mk 19 x a e l) .expr);rw[hr];rw[hx_19] at hr;have HQ:=jj (show jf0 [] (jc9 (nmO x l 1) (jcw l 0 .expr))=r by rw[jc4];exact hr);have hb1:=jak (Below.refl W.heap.size W) (.cells #[.int .i64 19,.string (bs x),.int .i64 a,.int .i64 e,.slice B m d] 25);have hF:=ja6 W (.int .i64 19) (.string (bs x)) (.int .i64 a) (.int .i64 e) (.slice B m d) 25;obtain ⟨w1,hw1⟩:=jx (W.alloc (.cells #[.int .i64 19,.string (bs x),.int .i64 a,.int .i64 e,.slice B m d] 25));rw[hw1] at hb1 hF;have hl:=hv.len;have hmd:=hl.2.1;have hdd:=hl.2.2;have HLe:=jj hl.1.symm;have HN:=jj (hv.kept hb1);have HB:=jj hb1;have HW:=jj hw1;have HF:=jj hF;have HP:=jj hp;have Hx:=jj hx;have S1:=jj (xs1 hS hb1);have F1:=jj (ShF.of (Nat.le_of_lt hS.lt) hb1 u);have G1:=jj (ShF.refl p w1 u);have Hb1:=jj (xhb hL);have hnp:=xnp hS;have hno:u.ownBlock≠some W.heap.size:=hS.notown (Nat.le_refl _);obtain ⟨-,t0,t1,t2,t3,t4⟩:=hF;clear hv hl hr hw1 hb1 hp hx hS hL;go_enter Tryz.func210,Tryz.ntmps210;go_upto_region 1 with fail;rw[HW.out];have HC0:=jj (jkw 1 (by decide) (1) rfl (k:=19) (a:=a) (e:=e) (x:=x) (B:=B) (l:=l) HLe.out.symm hdd hmd S1.out (by have:=Hb1.out;omega));obtain ⟨r0,hr0⟩:∃o,nmO x l 1=o:=⟨_,rfl⟩;have HQ:=jj HQ.out;rw[hr0] at HC0 HQ
  have HB0:=jj (show ∀t,r0=some t→(L++([]++t)).length+2*ja8 (l.drop 0)≤1999999999 from fun t ht=>by
    have h1:=Hb1.out;have h3:=(ji0 (hr0.trans ht)).2;have e0:ja8 (l.drop 0)=ja8 l:=rfl;rw[←List.append_assoc,List.length_append]
    omega)
  have HK0:=jj (show ∀t,r0=some t→m=1 from fun t ht=>by rw[HLe.out];exact (ji0 (hr0.trans ht)).1);clear hr0;go_wp2_with fail;(with_reducible refine HC0.out.mono ?_);rintro e0 v0 ⟨u0,L0,s0,f0,hz0⟩;have G10:=jj (G1.out.trans f0)
  cases r0 with
  | none =>
    obtain rfl:=hz0;have S10:=jj s0;have Hn:=jj (show none=r by rw[←HQ.out];rfl);clear s0 f0;obtain ⟨-,t00,t01,t02,t03,t04⟩:=HF.out.shf G10.out hnp hno;go_wp2;go_ret;obtain rfl:=Hn.out;exact ⟨_,_,S10.out,F1.out.trans G10.out,rfl⟩
  | some t0 =>
    obtain ⟨rfl,hL0⟩:=hz0;have S10:=jj (show ShS p v0 u0 (L++([]++t0)) by rw[←List.append_assoc,←hL0];exact s0);clear s0 f0 hL0;have Hb10:=jj (HB0.out t0 rfl);(have i0:1≤m:=by have:=HK0.out t0 rfl;omega);obtain ⟨-,t00,t01,t02,t03,t04⟩:=HF.out.shf G10.out hnp hno;have HQ:=jj (show jf0 ([]++t0) (jcw l 0 .expr)=r by rw[←HQ.out,jci]);obtain ⟨g1,o1,y0,A1,m1,d1,rfl,hy0,ry0,x10,x11,x12,x13,x14⟩:=(HN.out.lowP G10.out.below).at_ (i:=0) (by omega);rw[show o1+0*5=o1 by omega] at x10 x11 x12 x13 x14;have HC1:=jj ((HP.out y0 (List.mem_of_getElem? hy0)).1.at_ p .expr (N:=210) rfl S10.out (jb7 ry0) (by have:=Hb10.out;have:=jbp hy0;have e0:ja8 (l.drop 0)=ja8 l:=rfl;omega));rw[←jbv hy0] at HC1;obtain ⟨r1,hr1⟩:∃o,jcw l 0 .expr=o:=⟨_,rfl⟩;have HQ:=jj HQ.out;rw[hr1] at HC1 HQ
    have HB1:=jj (show ∀t,r1=some t→(L++([]++t0++t)).length+2*ja8 (l.drop 1)≤1999999999 from fun t ht=>by
      have h1:=Hb10.out;have h2:ja8 (l.drop 0)=sizeN y0+ja8 (l.drop 1):=jbp hy0;have h3:=jbn y0 .expr t (by rw[←jbv hy0,hr1,ht]);have e0:ja8 (l.drop 0)=ja8 l:=rfl;rw[←List.append_assoc,List.length_append]
      omega)
    clear hy0 ry0;clear hr1;go_wp2_with fail;(with_reducible refine HC1.out.mono ?_);rintro e1 v1 ⟨u1,L1,s1,f1,hz1⟩;have G11:=jj (G10.out.trans f1)
    cases r1 with
    | none =>
      obtain rfl:=hz1;have S11:=jj s1;have Hn:=jj (show none=r by rw[←HQ.out];rfl);clear s1 f1;go_wp2;go_ret;obtain rfl:=Hn.out;exact ⟨_,_,S11.out,F1.out.trans G11.out,rfl⟩
    | some t1 =>
      obtain ⟨rfl,hL1⟩:=hz1;have S11:=jj (show ShS p v1 u1 (L++([]++t0++t1)) by rw[←List.append_assoc,←hL1];exact s1);clear s1 f1 hL1;have Hn:=jj (show some ([]++t0++t1)=r by rw[←HQ.out];rfl);go_wp2;go_ret;obtain rfl:=Hn.out;exact ⟨_,_,S11.out,F1.out.trans G11.out,rfl,rfl⟩
theorem tx_20 {a e:Int} {x:List UInt8} {l:List Nd} {B:Option Addr} {m d:Nat} (hx:x.length≤9223372036854775807) (hp:∀y∈l,AllC y∧∀z∈y.kids,AllC z) {p:Nat} {W:World} {u:Value} {L:List Tk} (hS:ShS p W u L) (hv:NdS W (fun g=>g<p) B m d l) (hL:L.length+2*(ja8 l+1)≤1999999999) :
    Calls Tryz.prog 210 #[.pointer (some ⟨p,0,none⟩),.agg #[.int .i64 20,.string (bs x),.int .i64 a,.int .i64 e,.slice B m d]] W (ExG p W u L (shO (.mk 20 x a e l) .expr)):=by
  obtain ⟨r,hr⟩:=jx (shO (.mk 20 x a e l) .expr);rw[hr];rw[hx_20] at hr;have HQ:=jj (show jf0 [] (jc9 (gd (decide (x=[]))) (jeh (fun n=>shO n .expr) l 1 none))=r by rw[jc4];exact hr);have hb1:=jak (Below.refl W.heap.size W) (.cells #[.int .i64 20,.string (bs x),.int .i64 a,.int .i64 e,.slice B m d] 25);have hF:=ja6 W (.int .i64 20) (.string (bs x)) (.int .i64 a) (.int .i64 e) (.slice B m d) 25;obtain ⟨w1,hw1⟩:=jx (W.alloc (.cells #[.int .i64 20,.string (bs x),.int .i64 a,.int .i64 e,.slice B m d] 25));rw[hw1] at hb1 hF;have hl:=hv.len;have hmd:=hl.2.1;have hdd:=hl.2.2;have HLe:=jj hl.1.symm;have HN:=jj (hv.kept hb1);have HB:=jj hb1;have HW:=jj hw1;have HF:=jj hF;have HP:=jj hp;have Hx:=jj hx;have S1:=jj (xs1 hS hb1);have F1:=jj (ShF.of (Nat.le_of_lt hS.lt) hb1 u);have G1:=jj (ShF.refl p w1 u);have Hb1:=jj (xhb hL);have hnp:=xnp hS;have hno:u.ownBlock≠some W.heap.size:=hS.notown (Nat.le_refl _);obtain ⟨-,t0,t1,t2,t3,t4⟩:=hF;clear hv hl hr hw1 hb1 hp hx hS hL;go_enter Tryz.func210,Tryz.ntmps210;go_upto_region 1 with fail;rw[HW.out];by_cases h0:x=[]
  case neg =>
    (have q0:((bs x).toList==[])=false:=by rw[Lib.toList_data,jac];exact beq_eq_false_iff_ne.2 h0);have HQ:=jj HQ.out;have Hn:=jj (show none=r by rw[←HQ.out,show decide (x=[])=false from decide_eq_false h0];rfl);clear h0;go_wp2;go_ret;obtain rfl:=Hn.out;exact ⟨_,_,S1.out,F1.out.trans G1.out,rfl⟩
  (have q0:((bs x).toList==[])=true:=by rw[Lib.toList_data,jac];exact beq_iff_eq.2 h0);have HQ:=jj (show jf0 ([]) (jeh (fun n=>shO n .expr) l 1 none)=r by rw[←HQ.out,show decide (x=[])=true from decide_eq_true h0,jgd]);clear h0;have HC1:=jj (jhl jig (f:=fun n=>shO n .expr) S1.out (HN.out.lowP G1.out.below) (fun y hy=>(HP.out y hy).1 p .expr _ rfl) (fun y _ ts h=>jbn y .expr ts h) (by have:=Hb1.out;have e0:ja8 (l.drop 0)=ja8 l:=rfl;omega) 1 (1) rfl (9223372036854775807) none (by decide) (fun k hk=>by cases hk) rfl);obtain ⟨r1,hr1⟩:∃o,jeh (fun n=>shO n .expr) l 1 none=o:=⟨_,rfl⟩;have HQ:=jj HQ.out;rw[hr1] at HC1 HQ;clear hr1;go_wp2_with fail;(with_reducible refine HC1.out.mono ?_);rintro e1 v1 ⟨u1,L1,s1,f1,hz1⟩;have G11:=jj (G1.out.trans f1)
  cases r1 with
  | none =>
    obtain rfl:=hz1;have S11:=jj s1;have Hn:=jj (show none=r by rw[←HQ.out];rfl);clear s1 f1;go_wp2;go_ret;obtain rfl:=Hn.out;exact ⟨_,_,S11.out,F1.out.trans G11.out,rfl⟩
  | some t1 =>
    obtain ⟨rfl,hL1⟩:=hz1;have S11:=jj (show ShS p v1 u1 (L++([]++t1)) by rw[←List.append_assoc,←hL1];exact s1);clear s1 f1 hL1;have Hn:=jj (show some ([]++t1)=r by rw[←HQ.out];rfl);go_wp2;go_ret;obtain rfl:=Hn.out;exact ⟨_,_,S11.out,F1.out.trans G11.out,rfl,rfl⟩
theorem tx_21 {a e:Int} {x:List UInt8} {l:List Nd} {B:Option Addr} {m d:Nat} (hx:x.length≤9223372036854775807) (hp:∀y∈l,AllC y∧∀z∈y.kids,AllC z) {p:Nat} {W:World} {u:Value} {L:List Tk} (hS:ShS p W u L) (hv:NdS W (fun g=>g<p) B m d l) (hL:L.length+2*(ja8 l+1)≤1999999999) :
    Calls Tryz.prog 210 #[.pointer (some ⟨p,0,none⟩),.agg #[.int .i64 21,.string (bs x),.int .i64 a,.int .i64 e,.slice B m d]] W (ExG p W u L (shO (.mk 21 x a e l) .expr)):=by
  obtain ⟨r,hr⟩:=jx (shO (.mk 21 x a e l) .expr);rw[hr];rw[hx_21] at hr;have HQ:=jj (show jf0 [] (jc9 (some (jja x)) (jeh (fun n=>shO n .expr) l 0 none))=r by rw[jc4];exact hr);have hb1:=jak (Below.refl W.heap.size W) (.cells #[.int .i64 21,.string (bs x),.int .i64 a,.int .i64 e,.slice B m d] 25);have hF:=ja6 W (.int .i64 21) (.string (bs x)) (.int .i64 a) (.int .i64 e) (.slice B m d) 25;obtain ⟨w1,hw1⟩:=jx (W.alloc (.cells #[.int .i64 21,.string (bs x),.int .i64 a,.int .i64 e,.slice B m d] 25));rw[hw1] at hb1 hF;have hl:=hv.len;have hmd:=hl.2.1;have hdd:=hl.2.2;have HLe:=jj hl.1.symm;have HN:=jj (hv.kept hb1);have HB:=jj hb1;have HW:=jj hw1;have HF:=jj hF;have HP:=jj hp;have Hx:=jj hx;have S1:=jj (xs1 hS hb1);have F1:=jj (ShF.of (Nat.le_of_lt hS.lt) hb1 u);have G1:=jj (ShF.refl p w1 u);have Hb1:=jj (xhb hL);have hnp:=xnp hS;have hno:u.ownBlock≠some W.heap.size:=hS.notown (Nat.le_refl _);obtain ⟨-,t0,t1,t2,t3,t4⟩:=hF;clear hv hl hr hw1 hb1 hp hx hS hL;go_enter Tryz.func210,Tryz.ntmps210;go_upto_region 1 with fail;rw[HW.out];have HC0:=jj (jkx x Hx.out S1.out (by have:=Hb1.out;omega));go_wp2_with fail;(with_reducible refine HC0.out.mono ?_);rintro e0 v0 ⟨u0,rfl,s0,f0⟩;have S10:=jj (show ShS p v0 u0 (L++([]++jja x)) by rw[←List.append_assoc];exact s0);have G10:=jj (G1.out.trans f0);have Hb10:=jj (show (L++([]++jja x)).length+2*ja8 (l.drop 0)≤1999999999 by have h1:=Hb1.out;have h2:=jn9 x;have e0:ja8 (l.drop 0)=ja8 l:=rfl;rw[←List.append_assoc,List.length_append];omega);clear s0 f0;obtain ⟨-,t00,t01,t02,t03,t04⟩:=HF.out.shf G10.out hnp hno;have HQ:=jj (show jf0 ([]++jja x) (jeh (fun n=>shO n .expr) l 0 none)=r by rw[←HQ.out,jci]);have HC1:=jj (jhl jig (f:=fun n=>shO n .expr) S10.out (HN.out.lowP G10.out.below) (fun y hy=>(HP.out y hy).1 p .expr _ rfl) (fun y _ ts h=>jbn y .expr ts h) (by have:=Hb10.out;have e0:ja8 (l.drop 0)=ja8 l:=rfl;omega) 0 (0) rfl (9223372036854775807) none (by decide) (fun k hk=>by cases hk) rfl);obtain ⟨r1,hr1⟩:∃o,jeh (fun n=>shO n .expr) l 0 none=o:=⟨_,rfl⟩;have HQ:=jj HQ.out;rw[hr1] at HC1 HQ;clear hr1;go_wp2_with fail;(with_reducible refine HC1.out.mono ?_);rintro e1 v1 ⟨u1,L1,s1,f1,hz1⟩;have G11:=jj (G10.out.trans f1)
  cases r1 with
  | none =>
    obtain rfl:=hz1;have S11:=jj s1;have Hn:=jj (show none=r by rw[←HQ.out];rfl);clear s1 f1;go_wp2;go_ret;obtain rfl:=Hn.out;exact ⟨_,_,S11.out,F1.out.trans G11.out,rfl⟩
  | some t1 =>
    obtain ⟨rfl,hL1⟩:=hz1;have S11:=jj (show ShS p v1 u1 (L++([]++jja x++t1)) by rw[←List.append_assoc,←hL1];exact s1);clear s1 f1 hL1;have Hn:=jj (show some ([]++jja x++t1)=r by rw[←HQ.out];rfl);go_wp2;go_ret;obtain rfl:=Hn.out;exact ⟨_,_,S11.out,F1.out.trans G11.out,rfl,rfl⟩
theorem tx_22 {a e:Int} {x:List UInt8} {l:List Nd} {B:Option Addr} {m d:Nat} (hx:x.length≤9223372036854775807) (hp:∀y∈l,AllC y∧∀z∈y.kids,AllC z) {p:Nat} {W:World} {u:Value} {L:List Tk} (hS:ShS p W u L) (hv:NdS W (fun g=>g<p) B m d l) (hL:L.length+2*(ja8 l+1)≤1999999999) :
    Calls Tryz.prog 210 #[.pointer (some ⟨p,0,none⟩),.agg #[.int .i64 22,.string (bs x),.int .i64 a,.int .i64 e,.slice B m d]] W (ExG p W u L (shO (.mk 22 x a e l) .expr)):=by
  obtain ⟨r,hr⟩:=jx (shO (.mk 22 x a e l) .expr);rw[hr];rw[hx_22] at hr;have HQ:=jj (show jf0 [] (jc9 (gd (decide (x=[33]∨x=[45]))) (jeh (fun n=>shO n .expr) l 1 (some 1)))=r by rw[jc4];exact hr);have hb1:=jak (Below.refl W.heap.size W) (.cells #[.int .i64 22,.string (bs x),.int .i64 a,.int .i64 e,.slice B m d] 25);have hF:=ja6 W (.int .i64 22) (.string (bs x)) (.int .i64 a) (.int .i64 e) (.slice B m d) 25;obtain ⟨w1,hw1⟩:=jx (W.alloc (.cells #[.int .i64 22,.string (bs x),.int .i64 a,.int .i64 e,.slice B m d] 25));rw[hw1] at hb1 hF;have hl:=hv.len;have hmd:=hl.2.1;have hdd:=hl.2.2;have HLe:=jj hl.1.symm;have HN:=jj (hv.kept hb1);have HB:=jj hb1;have HW:=jj hw1;have HF:=jj hF;have HP:=jj hp;have Hx:=jj hx;have S1:=jj (xs1 hS hb1);have F1:=jj (ShF.of (Nat.le_of_lt hS.lt) hb1 u);have G1:=jj (ShF.refl p w1 u);have Hb1:=jj (xhb hL);have hnp:=xnp hS;have hno:u.ownBlock≠some W.heap.size:=hS.notown (Nat.le_refl _);obtain ⟨-,t0,t1,t2,t3,t4⟩:=hF;clear hv hl hr hw1 hb1 hp hx hS hL;go_enter Tryz.func210,Tryz.ntmps210;go_upto_region 1 with fail;rw[HW.out];obtain ⟨b0,hb0⟩:∃b,decide (x=[33]∨x=[45])=b:=⟨_,rfl⟩;have HC0:=jj (qprefix x w1);have HQ:=jj HQ.out;rw[hb0] at HC0 HQ;clear hb0;go_wp2_with fail;(with_reducible refine HC0.out.mono ?_);rintro e0 v0 ⟨rfl,rfl⟩
  cases b0 with
  | false =>
    have Hn:=jj (show none=r by rw[←HQ.out];rfl);go_wp2;go_ret;obtain rfl:=Hn.out;exact ⟨_,_,S1.out,F1.out.trans G1.out,rfl⟩
  | true =>
    have HQ:=jj (show jf0 ([]) (jeh (fun n=>shO n .expr) l 1 (some 1))=r by rw[←HQ.out,jgd]);have HC1:=jj (jhl jig (f:=fun n=>shO n .expr) S1.out (HN.out.lowP G1.out.below) (fun y hy=>(HP.out y hy).1 p .expr _ rfl) (fun y _ ts h=>jbn y .expr ts h) (by have:=Hb1.out;have e0:ja8 (l.drop 0)=ja8 l:=rfl;omega) 1 (1) rfl (1) (some 1) (by decide) (fun k hk=>by cases hk;decide) rfl);obtain ⟨r1,hr1⟩:∃o,jeh (fun n=>shO n .expr) l 1 (some 1)=o:=⟨_,rfl⟩;have HQ:=jj HQ.out;rw[hr1] at HC1 HQ;clear hr1;go_wp2_with fail;(with_reducible refine HC1.out.mono ?_);rintro e1 v1 ⟨u1,L1,s1,f1,hz1⟩;have G11:=jj (G1.out.trans f1)
    cases r1 with
    | none =>
      obtain rfl:=hz1;have S11:=jj s1;have Hn:=jj (show none=r by rw[←HQ.out];rfl);clear s1 f1;go_wp2;go_ret;obtain rfl:=Hn.out;exact ⟨_,_,S11.out,F1.out.trans G11.out,rfl⟩
    | some t1 =>
      obtain ⟨rfl,hL1⟩:=hz1;have S11:=jj (show ShS p v1 u1 (L++([]++t1)) by rw[←List.append_assoc,←hL1];exact s1);clear s1 f1 hL1;have Hn:=jj (show some ([]++t1)=r by rw[←HQ.out];rfl);go_wp2;go_ret;obtain rfl:=Hn.out;exact ⟨_,_,S11.out,F1.out.trans G11.out,rfl,rfl⟩
theorem tx_23 {a e:Int} {x:List UInt8} {l:List Nd} {B:Option Addr} {m d:Nat} (hx:x.length≤9223372036854775807) (hp:∀y∈l,AllC y∧∀z∈y.kids,AllC z) {p:Nat} {W:World} {u:Value} {L:List Tk} (hS:ShS p W u L) (hv:NdS W (fun g=>g<p) B m d l) (hL:L.length+2*(ja8 l+1)≤1999999999) :
    Calls Tryz.prog 210 #[.pointer (some ⟨p,0,none⟩),.agg #[.int .i64 23,.string (bs x),.int .i64 a,.int .i64 e,.slice B m d]] W (ExG p W u L (shO (.mk 23 x a e l) .expr)):=by
  obtain ⟨r,hr⟩:=jx (shO (.mk 23 x a e l) .expr);rw[hr];rw[hx_23] at hr;have HQ:=jj (show jf0 [] (jc9 (gd (opOk x)) (jeh (fun n=>shO n .expr) l 2 (some 2)))=r by rw[jc4];exact hr);have hb1:=jak (Below.refl W.heap.size W) (.cells #[.int .i64 23,.string (bs x),.int .i64 a,.int .i64 e,.slice B m d] 25);have hF:=ja6 W (.int .i64 23) (.string (bs x)) (.int .i64 a) (.int .i64 e) (.slice B m d) 25;obtain ⟨w1,hw1⟩:=jx (W.alloc (.cells #[.int .i64 23,.string (bs x),.int .i64 a,.int .i64 e,.slice B m d] 25));rw[hw1] at hb1 hF;have hl:=hv.len;have hmd:=hl.2.1;have hdd:=hl.2.2;have HLe:=jj hl.1.symm;have HN:=jj (hv.kept hb1);have HB:=jj hb1;have HW:=jj hw1;have HF:=jj hF;have HP:=jj hp;have Hx:=jj hx;have S1:=jj (xs1 hS hb1);have F1:=jj (ShF.of (Nat.le_of_lt hS.lt) hb1 u);have G1:=jj (ShF.refl p w1 u);have Hb1:=jj (xhb hL);have hnp:=xnp hS;have hno:u.ownBlock≠some W.heap.size:=hS.notown (Nat.le_refl _);obtain ⟨-,t0,t1,t2,t3,t4⟩:=hF;clear hv hl hr hw1 hb1 hp hx hS hL;go_enter Tryz.func210,Tryz.ntmps210;go_upto_region 1 with fail;rw[HW.out];obtain ⟨b0,hb0⟩:∃b,opOk x=b:=⟨_,rfl⟩;have hlv:=op_lev x;obtain ⟨lv,hlv2⟩:∃n,jfc x=n:=⟨_,rfl⟩;have HC0:=jj (qlevel x w1);have HQ:=jj HQ.out;rw[hlv2] at HC0 hlv;rw[hb0] at hlv HQ;clear hb0 hlv2;go_wp2_with fail;(with_reducible refine HC0.out.mono ?_);rintro e0 v0 ⟨rfl,rfl⟩
  cases b0 with
  | false =>
    (have hl0:¬(lv:Int) > 0:=by have:=of_decide_eq_false hlv.symm;omega);have Hn:=jj (show none=r by rw[←HQ.out];rfl);clear hlv;go_wp2;go_ret;obtain rfl:=Hn.out;exact ⟨_,_,S1.out,F1.out.trans G1.out,rfl⟩
  | true =>
    (have hl0:(lv:Int) > 0:=by have:=of_decide_eq_true hlv.symm;omega);have HQ:=jj (show jf0 ([]) (jeh (fun n=>shO n .expr) l 2 (some 2))=r by rw[←HQ.out,jgd]);clear hlv;have HC1:=jj (jhl jig (f:=fun n=>shO n .expr) S1.out (HN.out.lowP G1.out.below) (fun y hy=>(HP.out y hy).1 p .expr _ rfl) (fun y _ ts h=>jbn y .expr ts h) (by have:=Hb1.out;have e0:ja8 (l.drop 0)=ja8 l:=rfl;omega) 2 (2) rfl (2) (some 2) (by decide) (fun k hk=>by cases hk;decide) rfl);obtain ⟨r1,hr1⟩:∃o,jeh (fun n=>shO n .expr) l 2 (some 2)=o:=⟨_,rfl⟩;have HQ:=jj HQ.out;rw[hr1] at HC1 HQ;clear hr1;go_wp2_with fail;(with_reducible refine HC1.out.mono ?_);rintro e1 v1 ⟨u1,L1,s1,f1,hz1⟩;have G11:=jj (G1.out.trans f1)
    cases r1 with
    | none =>
      obtain rfl:=hz1;have S11:=jj s1;have Hn:=jj (show none=r by rw[←HQ.out];rfl);clear s1 f1;go_wp2;go_ret;obtain rfl:=Hn.out;exact ⟨_,_,S11.out,F1.out.trans G11.out,rfl⟩
    | some t1 =>
      obtain ⟨rfl,hL1⟩:=hz1;have S11:=jj (show ShS p v1 u1 (L++([]++t1)) by rw[←List.append_assoc,←hL1];exact s1);clear s1 f1 hL1;have Hn:=jj (show some ([]++t1)=r by rw[←HQ.out];rfl);go_wp2;go_ret;obtain rfl:=Hn.out;exact ⟨_,_,S11.out,F1.out.trans G11.out,rfl,rfl⟩
theorem tx_no {k:Int} {a e:Int} {x:List UInt8} {l:List Nd} {B:Option Addr} {m d:Nat} (n15:k≠15) (n16:k≠16) (n17:k≠17) (n18:k≠18) (n19:k≠19) (n20:k≠20) (n21:k≠21) (n22:k≠22) (n23:k≠23) (hx:x.length≤9223372036854775807) (hp:∀y∈l,AllC y∧∀z∈y.kids,AllC z) {p:Nat} {W:World} {u:Value} {L:List Tk} (hS:ShS p W u L) (hv:NdS W (fun g=>g<p) B m d l) (hL:L.length+2*(ja8 l+1)≤1999999999) :
    Calls Tryz.prog 210 #[.pointer (some ⟨p,0,none⟩),.agg #[.int .i64 k,.string (bs x),.int .i64 a,.int .i64 e,.slice B m d]] W (ExG p W u L (shO (.mk k x a e l) .expr)):=by
  obtain ⟨r,hr⟩:=jx (shO (.mk k x a e l) .expr);rw[hr];rw[hx_no _ _ _ _ _ n15 n16 n17 n18 n19 n20 n21 n22 n23] at hr;have HQ:=jj (show jf0 [] (none)=r by rw[jc4];exact hr);have hb1:=jak (Below.refl W.heap.size W) (.cells #[.int .i64 k,.string (bs x),.int .i64 a,.int .i64 e,.slice B m d] 25);have hF:=ja6 W (.int .i64 k) (.string (bs x)) (.int .i64 a) (.int .i64 e) (.slice B m d) 25;obtain ⟨w1,hw1⟩:=jx (W.alloc (.cells #[.int .i64 k,.string (bs x),.int .i64 a,.int .i64 e,.slice B m d] 25));rw[hw1] at hb1 hF;have hl:=hv.len;have hmd:=hl.2.1;have hdd:=hl.2.2;have HLe:=jj hl.1.symm;have HN:=jj (hv.kept hb1);have HB:=jj hb1;have HW:=jj hw1;have HF:=jj hF;have HP:=jj hp;have Hx:=jj hx;have S1:=jj (xs1 hS hb1);have F1:=jj (ShF.of (Nat.le_of_lt hS.lt) hb1 u);have G1:=jj (ShF.refl p w1 u);have Hb1:=jj (xhb hL);have hnp:=xnp hS;have hno:u.ownBlock≠some W.heap.size:=hS.notown (Nat.le_refl _);obtain ⟨-,t0,t1,t2,t3,t4⟩:=hF;clear hv hl hr hw1 hb1 hp hx hS hL;have f15:(k==15)=false:=beq_eq_false_iff_ne.2 n15;have f16:(k==16)=false:=beq_eq_false_iff_ne.2 n16;have f17:(k==17)=false:=beq_eq_false_iff_ne.2 n17;have f18:(k==18)=false:=beq_eq_false_iff_ne.2 n18;have f19:(k==19)=false:=beq_eq_false_iff_ne.2 n19;have f20:(k==20)=false:=beq_eq_false_iff_ne.2 n20;have f21:(k==21)=false:=beq_eq_false_iff_ne.2 n21;have f22:(k==22)=false:=beq_eq_false_iff_ne.2 n22;have f23:(k==23)=false:=beq_eq_false_iff_ne.2 n23;go_enter Tryz.func210,Tryz.ntmps210;go_upto_region 1 with fail;rw[HW.out];have Hn:=jj (show none=r by rw[←HQ.out];rfl);go_wp2;go_ret;obtain rfl:=Hn.out;exact ⟨_,_,S1.out,F1.out.trans G1.out,rfl⟩
end
end Go.Proofs.YtonoklmobocikaaGreatDoor
