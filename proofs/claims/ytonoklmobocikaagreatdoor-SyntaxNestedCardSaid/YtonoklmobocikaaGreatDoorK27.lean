/- Lemmas. -/
import Derived.Test.YtonoklmobocikaaGreatDoorK26
set_option linter.unusedVariables false
set_option linter.unusedSimpArgs false
set_option maxRecDepth 20000
set_option maxHeartbeats 6400000
namespace Go.Proofs.YtonoklmobocikaaGreatDoor
section
open Go.RowKit
theorem join_ownB {w:World} {B:Nat} {u:Value} {ts:List (List UInt8)} (ho:Own w B 9 u (jhs ts)) (hn:ts.length≤8000000) (hl:(jn2 ts).length≤1000000000) :
    ∃A n c,u=.slice A n c∧Calls Tryz.prog 142 #[.slice A n c,.string ⟨#[32]⟩] w fun e w'=>e=.returned (.string (bs (jn2 ts)))∧Below w.heap.size w w':=by
  have hS:(⟨#[32]⟩:ByteArray).data.toList=[32]:=rfl;rcases ho.2 with ⟨rfl,h0⟩ | ⟨g,cap,cur,rfl,hb,hg,hc,hmx,r⟩
  · rw[jgt] at h0;obtain rfl:ts=[]:=List.eq_nil_of_length_eq_zero h0;refine ⟨none,0,0,rfl,(Tryz.strings_Join_none none 0 ⟨#[32]⟩ w).mono ?_⟩;rintro e w' ⟨rfl,rfl⟩;exact ⟨rfl,Below.refl _ _⟩
  · refine ⟨_,_,cap,rfl,?_⟩;have hmap:=map_bs ts
    have hj:=Tryz.strings_Join g 0 cap (ts.map bs) ⟨#[32]⟩ w (fun j x hx=>by
      have hjl':=(List.getElem?_eq_some_iff.1 hx).1;rw[List.length_map] at hjl';rw[Nat.zero_add,ho.cellAt j (by rw[jgt];omega)];unfold jhs;rw[List.getElem?_map] at hx ⊢
      cases ht:ts[j]? with
      | none=>rw[ht] at hx;simp at hx
      | some t=>rw[ht] at hx;simp at hx;simp[hx]) (lt_of_block hg) (by rw[List.length_map];omega) (by rw[List.length_map];rw[jgt] at hc;exact hc) (by rw[hmap,hS,join_is];omega)
    rw[hmap,hS,List.length_map,join_is] at hj;rw[jgt];exact hj
theorem pprintB (A:Option Addr) (n c:Nat) (l:List Tk) (w:World) (h:TkS w A n c l) (hn:n≤8000000) (hsh:∀t∈l,t.text.length≤2000000) (hj:(jc6 l).length≤1000000000) :
    Calls Tryz.prog 90 #[.slice A n c] w fun e w'=>e=.returned (.tuple #[.string (bs (if jad l=true then jc6 l else [])),.int .i64 (if jad l=true then 0 else 1)])∧Below w.heap.size w w':=by
  obtain ⟨i0,hi,hz0,hz1,hz2⟩:=info_parts infoS9;have HKW:=jj (pkeywords w);have H:=jj h;have Hn:=jj h.2.2.1;have hnc:=h.1;have hcc:=h.2.1;have Hsh:=jj hsh;have Hj:=jj hj;obtain ⟨P,hP⟩:=jx (bs (if jad l=true then jc6 l else []));obtain ⟨E,hE⟩:∃E:Int,(if jad l=true then 0 else 1)=E:=⟨_,rfl⟩;rw[hP,hE];have HP:=jj hP;have HE:=jj hE;clear h hsh hP hE hj;go_enter Tryz.func90,Tryz.ntmps90;go_wp2_with fail;(with_reducible refine HKW.out.mono ?_);rintro e w1 ⟨rfl,hkw,hb1⟩;have H1:=jj (H.out.below hb1);have hmb:=hkw.lt;have HK:=jj hkw;have HB1:=jj hb1;clear hkw hb1 H HKW;obtain ⟨mb,hmbe⟩:=jx (w.heap.size);rw[hmbe] at HK hmb ⊢;have Hmb:=jj hmbe;clear hmbe;go_wp2_with fail
  go_loopw [5,11] (fun u y wr=>∃k:Nat,k≤n∧y=.int .i64 (k:Int)∧Own wr w1.heap.size 9 u (jhs (jhy (l.take k)))∧Below w1.heap.size w1 wr∧jad (l.take k)=true) (fun _ y _=>n - (intOf y).toNat)
  case atStart=>exact ⟨0,Nat.zero_le _,rfl,World.ownsRow_nil _ _ _ _,Below.refl _ _,rfl⟩
  case round =>
    obtain ⟨k,hk,rfl,hown,hb,hr⟩:=hrel;obtain ⟨w2,hw2⟩:∃w2,w2=wr:=⟨wr,rfl⟩;subst hw2;have hsz:=hb.size;have HO:=jj hown;have HB:=jj hb;have HR:=jj hr;by_cases hlt:k<n
    · obtain ⟨g,o,t,rfl,ht,c0,c1,c2,c3⟩:=(H1.out.below hb).at_ hlt;have htl:t.text.length≤2000000:=Hsh.out t (List.mem_of_getElem? ht);have hF:=jet w2 (.int .i64 t.kind) (.string (bs t.text)) (.int .i64 t.at_) (.int .i64 t.en) 66;have hbx:=jak (Below.refl w2.heap.size w2) (.cells #[.int .i64 t.kind,.string (bs t.text),.int .i64 t.at_,.int .i64 t.en] 66);have hkx:=(HK.out.below hb).below hbx;have HC:=jj (pfault t.kind t.at_ t.en (bs t.text) (by rw[jbs];omega) mb _ hkx _ rfl);rw[jac] at HC;have HF:=jj hF;have HBX:=jj hbx;have Hst:=jj (jif ht);have Htl:=jj htl;obtain ⟨q,hq⟩:=jx (jcd t.kind t.text);have hqc:=fault_le t.kind t.text;rw[hq] at HC hqc;have Hq:=jj hq;have HT:=jj ht;obtain ⟨tk,htk⟩:=jx (t.kind);obtain ⟨tt,htt⟩:=jx (bs t.text);obtain ⟨ta,hta⟩:=jx (t.at_);obtain ⟨te,hte⟩:=jx (t.en);rw[htk,htt,hta,hte] at HC HF HBX;rw[htk] at c0;rw[htt] at c1;rw[hta] at c2;rw[hte] at c3;have Htk:=jj htk;have Htt:=jj htt;clear hown hb hr hF hbx hkx htl hq ht htk htt hta hte;by_cases hq0:q=0
      · subst hq0;have hrt:jb8 t.kind t.text=true:=jlm Hq.out;have HR2:=jj (show jad (l.take (k+1))=true by rw[Hst.out];exact jme HR.out hrt)
        have HCon:=jj (show tk=4→tt.data.toList.all jkq=true by
          intro h4;have:=(jfy hrt).1;rw[Htk.out,h4,form4] at this;rw[←Htt.out,jac]
          exact this)
        have Htts:=jj (show tt.size≤2000000 by rw[←Htt.out,jbs];have:=Htl.out;omega);have Htt2:=jj (show jhr tk tt.data.toList=jhr t.kind t.text by rw[←Htt.out,jac,Htk.out]);clear hrt hqc;go_wp2_with fail;(with_reducible refine HC.out.mono ?_);rintro e w3 ⟨rfl,hb3⟩;obtain ⟨h0,d0,d1,d2,d3⟩:=HF.out.keep hb3;have HB3:=jj (bgo HBX.out hb3);have hsz3:w2.heap.size≤w3.heap.size:=HB3.out.size;have HO3:=jj (HO.out.below HB3.out);clear hb3 h0 c0 c1 c2 c3;go_wp2_with fail;(with_reducible refine (pprinted tk ta te tt Htts.out HCon.out w3).mono ?_);rintro e w4 ⟨rfl,hb4⟩;rw[Htt2.out];obtain ⟨pt,hpt⟩:=jx (jhr t.kind t.text);rw[hpt];have Hpt:=jj hpt;have HB4:=jj (bgo HB3.out hb4);have HO4:=jj (HO3.out.below hb4);(have hsz4:w1.heap.size≤w4.heap.size:=by have:=hb4.size;omega);have Hlen:=jj (show (jhs (jhy (l.take k))).length≤8000000 by rw[jgt];unfold jhy;rw[List.length_map,List.length_take];omega);clear hb4 hpt d0 d1 d2 d3;go_wp2_with (at_builtin;refine jf3 rfl (.tmp 19) (.tmp 22) 82 rfl 9 i0 _ 16 Tryz.underlying82 hi hz0 hz1 hz2 rfl w1.heap.size _ _ rfl _ _ rfl HO4.out hsz4 _ rfl rfl (by have:=Hlen.out;omega) (by have:=Hlen.out;unfold maxLen;omega) _ ?_);intro v' w5 hown5 hb5 _
        have hown6:Own w5 w1.heap.size 9 v' (jhs (jhy (l.take (k+1)))):=by
          rw[Hst.out];unfold jhy;rw[List.map_append,strs_app];show Own w5 w1.heap.size 9 v' (jhs (jhy (l.take k))++[.string (bs (jhr t.kind t.text))]);rw[Hpt.out];exact hown5
        obtain ⟨A2,c2,rfl,-⟩:=hown6.sl;have HO6:=jj hown6;have HB6:=jj ((HB.out.trans (HB4.out.mono hsz)).trans hb5);clear hown5 hown6 hb5;go_wp2;go_roundw
        case rel=>exact ⟨k+1,by omega,by go_num,HO6.out,HB6.out,HR2.out⟩
        case measure=>simp[intOf];omega
      · have HA:=jj (show jad l=false from not_right HT.out (by rw[Hq.out];exact hq0))
        have hne:(q != 0)=true:=by
          unfold bne;rw[beq_eq_false_iff_ne.2 hq0];try rfl
        clear hqc hq0;go_wp2_with fail;(with_reducible refine HC.out.mono ?_);rintro e w3 ⟨rfl,hb3⟩;have HB3:=jj (HB1.out.trans ((HB.out.trans ((bgo HBX.out hb3).mono hsz)).mono HB1.out.size));clear hb3;go_wp2
        go_ret2
        refine ⟨ret_si (by rw[←HP.out,HA.out];rfl) (by rw[←HE.out,HA.out];rfl),HB3.out⟩
    · have hall:l.take k=l:=List.take_of_length_le (by rw[Hn.out];omega);rw[hall] at HO HR;have hpl:=Hj.out;have hln:=Hn.out;obtain ⟨A2,n2,c2,rfl,hJ⟩:=join_ownB HO.out (by unfold jhy;rw[List.length_map];omega) (by show (jc6 l).length≤_;omega);have HJ:=jj hJ;clear hall hown hb hr hpl hln hJ;go_wp2_with fail;(with_reducible refine HJ.out.mono ?_);rintro e w3 ⟨rfl,hb3⟩;have HB3:=jj (HB1.out.trans ((HB.out.trans (hb3.mono hsz)).mono HB1.out.size));clear hb3;go_wp2
      go_ret2
      refine ⟨ret_si (by rw[←HP.out,HR.out];rfl) (by rw[←HE.out,HR.out];rfl),HB3.out⟩
def jib:List Tk→Nat
  | []=>0
  | t :: l=>t.text.length+jib l
theorem jkc (a b:List Tk):jib (a++b)=jib a+jib b:=by
  induction a with
  | nil=>simp[jib]
  | cons t a ih=>rw[List.cons_append,jib,jib,ih];omega
theorem tsum_mem {l:List Tk} {t:Tk} (h:t∈l):t.text.length≤jib l:=by
  induction l with
  | nil=>cases h
  | cons x l ih =>
    rw[jib];rcases List.mem_cons.1 h with rfl | h
    · omega
    · have:=ih h;omega
theorem joinS_len:∀ts:List (List UInt8),(jn2 ts).length≤(ts.map fun t=>t.length+1).sum
  | []=>Nat.le_refl _
  | [x]=>by
    show x.length≤_
    simp
  | x :: y :: l=>by
    have ih:=joinS_len (y :: l)
    show (x++32 :: jn2 (y :: l)).length≤_
    rw[List.length_append,List.length_cons,List.map_cons,List.sum_cons]
    omega
theorem print_len2 (l:List Tk):(jc6 l).length≤2*jib l+3*l.length:=by
  have h1:=joinS_len (l.map fun t=>jhr t.kind t.text)
  have h2:((l.map fun t=>jhr t.kind t.text).map fun t=>t.length+1).sum≤2*jib l+3*l.length:=by
    clear h1
    induction l with
    | nil=>simp
    | cons t l ih =>
      rw[List.map_cons,List.map_cons,List.sum_cons,jib,List.length_cons];have:=tokP_len t.kind t.text;omega
  exact Nat.le_trans h1 h2
mutual
def txN:Nd→Nat
  | .mk _ x _ _ l=>x.length+txL l
def txL:List Nd→Nat
  | []=>0
  | n :: l=>txN n+txL l
end
theorem typT_sum (x:List UInt8):jib (jja x)≤x.length:=by
  unfold jja;dsimp only;split
  · simp[jib,tk1]
  · simp only[jib,tk1,List.length_drop];have:(x.takeWhile (· != 46)).length≤x.length:=(List.takeWhile_sublist _).length_le;omega
set_option maxHeartbeats 6400000
mutual
theorem shO_sum:∀(n:Nd) (w:Wh) (ts:List Tk),shO n w=some ts→jib ts≤txN n
  | .mk k x a e l,w,ts,h=>by
    have hL:=fun w ts=>shL_sum l w ts
    have hW:=fun ws ts=>shW_sum l ws ts
    have hA:∀(u:List Tk) (o:Option (List Tk)) (ts:List Tk),jib u≤x.length→(∀v,o=some v→jib v≤txL l)→jc9 (some u) o=some ts→jib ts≤x.length+txL l:=by
      intro u o ts hu ho h;obtain ⟨u',v,h1,h2,rfl⟩:=jhe h;cases h1;rw[jkc];have:=ho v h2;omega
    have hS:∀(u:List Tk) (ts:List Tk),jib u≤x.length→some u=some ts→jib ts≤x.length+txL l:=by
      intro u ts hu h;cases h;omega
    have hB:∀(o:Option (List Tk)) (ts:List Tk),(∀v,o=some v→jib v≤txL l)→o=some ts→jib ts≤x.length+txL l:=by
      intro o ts ho h;have:=ho ts h;omega
    (have h1:∀(k:Int),jib [tk1 k x]≤x.length:=fun k=>by simp[jib,tk1]);have ht:=typT_sum x;rw[txN]
    cases w<;>unfold shO at h<;>dsimp only at h<;>(repeat' split at h)<;>first
      | (cases h;done)
      | exact hA _ _ _ (h1 _) (hW _) h
      | exact hA _ _ _ ht (hL _) h
      | exact hS _ _ (h1 _) h
      | exact hS _ _ ht h
      | exact hS _ _ (Nat.zero_le _) h
      | exact hB _ _ (hL _) h
      | exact hB _ _ (hW _) h
theorem shL_sum:∀(l:List Nd) (w:Wh) (ts:List Tk),shL l w=some ts→jib ts≤txL l
  | [],w,ts,h=>by rw[shL] at h;cases h;simp[jib]
  | n :: l,w,ts,h=>by
    rw[shL] at h;obtain ⟨u,v,h1,h2,rfl⟩:=jhe h;have:=shO_sum n w u h1;have:=shL_sum l w v h2;rw[jkc,txL];omega
theorem shW_sum:∀(l:List Nd) (ws:List Wh) (ts:List Tk),shW l ws=some ts→jib ts≤txL l
  | [],[],ts,h=>by rw[shW] at h;cases h;simp[jib]
  | [],w :: ws,ts,h=>by simp[shW] at h
  | n :: l,[],ts,h=>by simp[shW] at h
  | n :: l,w :: ws,ts,h=>by
    rw[shW] at h;obtain ⟨u,v,h1,h2,rfl⟩:=jhe h;have:=shO_sum n w u h1;have:=shW_sum l ws v h2;rw[jkc,txL];omega
end
theorem prightTokens {p:Nat} {W:World} {u:Value} {ts:List Tk} (hS:ShS p W u ts) (hn:ts.length≤8000000) (ht:jib ts≤2000000) :
    Calls Tryz.prog 45 #[.pointer (some ⟨p,0,none⟩)] W fun e w'=>e=.returned (.bool (jad ts))∧Below W.heap.size W w':=by
  obtain ⟨A,n,c,rfl,hnl,hT⟩:=hS.own.s;have hp:=hS.lt;have hc:=hS.cell;have HC:=jj (pprintB A n c ts W hT (by omega) (fun t h=>Nat.le_trans (tsum_mem h) ht) (by have:=print_len2 ts;omega));clear hT hS hnl ht;obtain ⟨b,hb⟩:=jx (jad ts);rw[hb] at HC ⊢;clear hb
  cases b with
  | true =>
    go_enter Tryz.func45,Tryz.ntmps45;go_wp2_with fail;(with_reducible refine HC.out.mono ?_);rintro e w2 ⟨rfl,hb2⟩;have B2:=jj hb2;clear hb2;go_wp2;go_ret;exact ⟨rfl,B2.out⟩
  | false =>
    go_enter Tryz.func45,Tryz.ntmps45;go_wp2_with fail;(with_reducible refine HC.out.mono ?_);rintro e w2 ⟨rfl,hb2⟩;have B2:=jj hb2;clear hb2;go_wp2;go_ret;exact ⟨rfl,B2.out⟩
end
section
open Go.RowKit
theorem jki (k:Int) (t:List UInt8):jb8 k t=(jgq k t&&decide (t.length≤jl0 k)):=by
  unfold jb8 jcd
  cases jgq k t with
  | false=>rfl
  | true =>
    rw[if_neg (by decide),Bool.true_and];by_cases h:jl0 k<t.length
    · rw[if_pos h,decide_eq_false (by omega)];try rfl
    · rw[if_neg h,decide_eq_true (by omega)];try rfl
end
section
open Go.RowKit
theorem NdS.addr {W:World} {ok:Nat→Prop} {A:Option Addr} {m d:Nat} {l:List Nd} (h:NdS W ok A m d l) (hm:0<m):∃g o,A=some ⟨g,o,none⟩:=by
  obtain ⟨g,o,-,-,-,-,e,-⟩:=h.at_ hm;exact ⟨g,o,e⟩
theorem NdS.drop_ {W:World} {ok:Nat→Prop} {g o:Nat} {m d:Nat} {l:List Nd} (h:NdS W ok (some ⟨g,o,none⟩) m d l) {i:Nat} (hi:i≤m):NdS W ok (some ⟨g,o+i*5,none⟩) (m - i) (d - i) (l.drop i):=by
  obtain ⟨vs,⟨h1,h2,h3,h4⟩,h5,h6⟩:=h;refine ⟨vs.drop i,⟨by omega,by omega,by rw[List.length_drop];omega,fun j v hv=>?_⟩,by rw[List.length_drop];omega,fun j v y hv hy=>?_⟩
  · rw[List.getElem?_drop] at hv;obtain ⟨g',o',c0,c1,c2,c3,c4,hB,hg,e,x0,x1,x2,x3,x4⟩:=h4 _ v hv;cases hB;exact ⟨g,o+i*5,c0,c1,c2,c3,c4,rfl,hg,e,by rw[show o+i*5+j*5=o+(i+j)*5 by omega];exact x0,by rw[show o+i*5+j*5=o+(i+j)*5 by omega];exact x1,by rw[show o+i*5+j*5=o+(i+j)*5 by omega];exact x2,by rw[show o+i*5+j*5=o+(i+j)*5 by omega];exact x3,by rw[show o+i*5+j*5=o+(i+j)*5 by omega];exact x4⟩
  · rw[List.getElem?_drop] at hv hy;exact h6 _ v y hv hy
end
section
open Go.RowKit
def TextsB (n:Nd):Prop:=∀y∈jca n,y.text.length≤9223372036854775807
theorem jk6 {l:List Nd} {z:Nd} (hz:z∈l):z∈jc7 l:=by
  induction l with
  | nil=>cases hz
  | cons n l ih =>
    rw[jc7];rcases List.mem_cons.1 hz with rfl | hz
    · exact List.mem_append_left _ (by cases z;rw[jca];exact List.mem_cons_self)
    · exact List.mem_append_right _ (ih hz)
mutual
theorem jky:∀(n y z:Nd),y∈jca n→z∈jca y→z∈jca n
  | .mk k x a e l,y,z,hy,hz=>by
    rw[jca] at hy
    rcases List.mem_cons.1 hy with rfl | hy
    · exact hz
    · rw[jca];exact List.mem_cons_of_mem _ (jj2 l y z hy hz)
theorem jj2:∀(l:List Nd) (y z:Nd),y∈jc7 l→z∈jca y→z∈jc7 l
  | [],y,z,hy,_=>by rw[jc7] at hy;cases hy
  | n :: l,y,z,hy,hz=>by
    rw[jc7] at hy ⊢
    rcases List.mem_append.1 hy with hy | hy
    · exact List.mem_append_left _ (jky n y z hy hz)
    · exact List.mem_append_right _ (jj2 l y z hy hz)
end
theorem jk3 {l:List Nd} {y z:Nd} (hy:y∈jc7 l) (hz:z∈jca y):z∈jc7 l:=jj2 l y z hy hz
end
section
open Go.RowKit
def jjv (n:Nd):Bool:=rightM n&&decide (jde n≤12)
theorem NdS.nil0 {W:World} {ok:Nat→Prop} {A:Option Addr} {d:Nat} (hd:d≤9223372036854775807):NdS W ok A 0 d []:=⟨[],⟨by omega,hd,rfl,fun j v hv=>by simp at hv⟩,rfl,fun j v y hv hy=>by simp at hv⟩
end
section
open Go.RowKit
theorem all_c:∀(f:Nat) (n:Nd),sizeN n≤f→TextsB n→AllC n:=by
  intro f
  induction f with
  | zero=>intro n h _;have:=jlf n;omega
  | succ f ih =>
    intro n hf ht p w N hN W u L v hS hv hL
    cases hv with
    | mk k a e x B m d vs l hvs hlen hr =>
    have hT:NdS W (fun g=>g<p) B m d l:=⟨vs,hvs,hlen,hr⟩;rw[sizeN] at hf hL;have hx:x.length≤9223372036854775807:=ht (.mk k x a e l) (by rw[jca];exact List.mem_cons_self);(have hself:∀y:Nd,y∈jca y:=fun y=>by cases y;rw[jca];exact List.mem_cons_self);have hsz:∀y∈jc7 l,sizeN y≤f:=fun y hy=>by have:=jj3 l y hy;omega
    have htx:∀y∈jc7 l,TextsB y:=fun y hy z hz=>by
      refine ht z ?_;rw[jca];refine List.mem_cons_of_mem _ ?_;exact jk3 hy hz
    have hp:∀y∈l,AllC y∧∀z∈y.kids,AllC z:=by
      intro y hy;have h1:=jk6 hy;refine ⟨ih y (hsz y h1) (htx y h1),fun z hz=>?_⟩;have h2:=jk3 h1 (show z∈jca y by cases y;rw[jca];exact List.mem_cons_of_mem _ (jk6 hz));exact ih z (hsz z h2) (htx z h2)
    cases w with
    | expr =>
      cases hN;by_cases n15:k=15
      · subst n15;exact tx_15 hx hp hS hT hL
      by_cases n16:k=16
      · subst n16;exact tx_16 hx hp hS hT hL
      by_cases n17:k=17
      · subst n17;exact tx_17 hx hp hS hT hL
      by_cases n18:k=18
      · subst n18;exact tx_18 hx hp hS hT hL
      by_cases n19:k=19
      · subst n19;exact tx_19 hx hp hS hT hL
      by_cases n20:k=20
      · subst n20;exact tx_20 hx hp hS hT hL
      by_cases n21:k=21
      · subst n21;exact tx_21 hx hp hS hT hL
      by_cases n22:k=22
      · subst n22;exact tx_22 hx hp hS hT hL
      by_cases n23:k=23
      · subst n23;exact tx_23 hx hp hS hT hL
      exact tx_no n15 n16 n17 n18 n19 n20 n21 n22 n23 hx hp hS hT hL
    | typ =>
      cases hN;exact tt_typ hx hp hS hT hL
    | types =>
      cases hN;exact tt_types hx hp hS hT hL
    | param =>
      cases hN;exact tp_any hx hp hS hT hL
    | block =>
      cases hN;exact tb_any hx hp hS hT hL
    | stmt =>
      cases hN;by_cases n6:k=6
      · subst n6;exact ts_6 hx hp hS hT hL
      by_cases n9:k=9
      · subst n9;exact ts_9 hx hp hS hT hL
      by_cases n10:k=10
      · subst n10;exact ts_10 hx hp hS hT hL
      by_cases n11:k=11
      · subst n11;exact ts_11 hx hp hS hT hL
      by_cases n12:k=12
      · subst n12;exact ts_12 hx hp hS hT hL
      by_cases n13:k=13
      · subst n13;exact ts_13 hx hp hS hT hL
      by_cases n14:k=14
      · subst n14;exact ts_14 hx hp hS hT hL
      exact ts_no n6 n9 n10 n11 n12 n13 n14 hx hp hS hT hL
    | decl =>
      cases hN;by_cases n3:k=3
      · subst n3;exact td_3 hx hp hS hT hL
      by_cases n4:k=4
      · subst n4;exact td_4 hx hp hS hT hL
      exact td_no n3 n4 hx hp hS hT hL
    | member =>
      cases hN;exact tm_any hx hp hS hT hL
    | sig =>
      cases hN;by_cases n5:k=5
      · subst n5;exact tg_5 hx hp hS hT hL
      exact tg_no n5 hx hp hS hT hL
    | arg=>cases hN
    | lst=>cases hN
def jn4 (n:Nd):Option (List Tk):=lfO 1 n.text n.kids
theorem jnd:Runs 88:=fun xs W=>by kernel_rfl
theorem timp {y:Nd} (p:Nat):ElC 88 p jn4 y:=by
  intro W u L v hS hv hL
  cases hv with
  | mk k a e x B m d vs l hvs hlen hr =>
  have hmd:=hvs.1;have hdd:=hvs.2.1;show Calls _ _ _ _ (ExG p W u L (lfO 1 x l));obtain ⟨r,hr⟩:=jx (lfO 1 x l);rw[hr];have hb1:=jak (Below.refl W.heap.size W) (.cells #[.int .i64 k,.string (bs x),.int .i64 a,.int .i64 e,.slice B m d] 25);have hF:=ja6 W (.int .i64 k) (.string (bs x)) (.int .i64 a) (.int .i64 e) (.slice B m d) 25;obtain ⟨w1,hw1⟩:=jx (W.alloc (.cells #[.int .i64 k,.string (bs x),.int .i64 a,.int .i64 e,.slice B m d] 25));rw[hw1] at hb1 hF;have HW:=jj hw1;have S1:=jj (hS.go hb1);have F1:=jj (ShF.of (Nat.le_of_lt hS.lt) hb1 u);have HC:=jj (pleaf 1 (k:=k) (a:=a) (e:=e) (x:=x) (B:=B) (l:=l) hlen hdd hmd (hS.go hb1) (by omega));rw[hr] at HC;obtain ⟨-,t0,t1,t2,t3,t4⟩:=hF;clear hvs hlen hr hw1 hb1 hS hL;go_enter Tryz.func88,Tryz.ntmps88;go_upto_region 1 with fail;rw[HW.out];go_wp2_with fail;(with_reducible refine HC.out.mono ?_);rintro e2 w2 ⟨u2,L2,s2,f2,h2⟩;have S2:=jj s2;have F2:=jj (F1.out.trans f2);clear s2 f2
  cases r with
  | none =>
    obtain rfl:=h2;go_wp2;go_ret;exact ⟨u2,L2,S2.out,F2.out,rfl⟩
  | some t =>
    obtain ⟨rfl,h3⟩:=h2;have H3:=jj h3;clear h3;go_wp2;go_ret;exact ⟨u2,L2,S2.out,F2.out,rfl,H3.out⟩
def k2 (n:Nd):Bool:=n.kind==2
def modO (n:Nd):Option (List Tk):=if n.kind=1∧n.text=[] then jc9 (shG jn4 (n.kids.takeWhile k2)) (shL (n.kids.dropWhile k2) .decl) else none
theorem fit_2 {n:Nd} (h:n.kind=2):jat false n .decl=false:=by
  obtain ⟨k,x,a,e,l⟩:=n;have h:k=2:=h;subst h;simp[jat]
theorem mod_list:∀l:List Nd,okO (jc9 (shG jn4 (l.takeWhile k2)) (shL (l.dropWhile k2) .decl))=jcs false (l.dropWhile jk9) .decl
  | []=>by simp[shG,shL,jdg,jc9,okO,jn1]
  | n :: l=>by
    have ih:=mod_list l
    rw[jfk] at ih
    cases hk:k2 n with
    | false =>
      have hi:jk9 n=false:=by
        have:(n.kind==2)=false:=hk;unfold jk9;rw[this];try rfl
      rw[List.takeWhile_cons,hk,List.dropWhile_cons,hk,List.dropWhile_cons,hi];show okO (jc9 (shG jn4 []) (shL (n :: l) .decl))=jcs false (n :: l) .decl;rw[shG,jd2,fit_shL]
    | true =>
      have hk':n.kind=2:=beq_iff_eq.1 hk;rw[List.takeWhile_cons,hk,List.dropWhile_cons,hk,List.dropWhile_cons];show okO (jc9 (jc9 (jn4 n) (shG jn4 (l.takeWhile k2))) (shL (l.dropWhile k2) .decl))=_;rw[jfk,jfk,Bool.and_assoc,ih]
      have hi:okO (jn4 n)=jk9 n:=by
        have:(n.kind==2)=true:=hk;unfold jn4 lfO jk9 jcn;rw[this,jg1];show _=(n.kids.isEmpty&&jb8 1 n.text);cases hkk:n.kids<;>simp[okO,jdc]
      rw[hi]
      cases himp:jk9 n with
      | true=>rfl
      | false =>
        show false=jcs false (n :: l) .decl;rw[je6,fit_2 hk'];try rfl
theorem modO_is (n:Nd):okO (modO n)=rightM n:=by
  unfold modO rightM;rw[jg1,mod_list];by_cases h1:n.kind=1
  · by_cases h2:n.text=[]
    · simp[h1,h2]
    · simp[h1,h2]
  · simp[h1]
theorem tw_at2 {l:List Nd} {i:Nat} (h:(l.take i).all k2=true) (hi:∀y,l[i]?=some y→k2 y=false):l.takeWhile k2=l.take i∧l.dropWhile k2=l.drop i:=by
  induction l generalizing i with
  | nil=>simp
  | cons n l ih =>
    cases i with
    | zero=>rw[List.takeWhile_cons,List.dropWhile_cons,hi n rfl];exact ⟨rfl,rfl⟩
    | succ i =>
      rw[List.take_succ_cons,List.all_cons,Bool.and_eq_true] at h;rw[List.takeWhile_cons,List.dropWhile_cons,h.1];obtain ⟨h1,h2⟩:=ih h.2 fun y hy=>hi y (by rw[List.getElem?_cons_succ];exact hy);rw[if_pos rfl,if_pos rfl,h1,h2];exact ⟨rfl,rfl⟩
theorem take_k2 {l:List Nd} {i:Nat} {y:Nd} (h:(l.take i).all k2=true) (hy:l[i]?=some y) (hp:k2 y=true):(l.take (i+1)).all k2=true:=by
  obtain ⟨h1,e⟩:=List.getElem?_eq_some_iff.1 hy;rw[List.take_succ_eq_append_getElem h1,e,List.all_append,h];simp[hp]
theorem NdS.take_ {W:World} {ok:Nat→Prop} {A:Option Addr} {m d:Nat} {l:List Nd} (h:NdS W ok A m d l) {i:Nat} (hi:i≤m):NdS W ok A i d (l.take i):=by
  obtain ⟨vs,⟨h1,h2,h3,h4⟩,h5,h6⟩:=h;refine ⟨vs.take i,⟨by omega,h2,by rw[List.length_take];omega,fun j v hv=>?_⟩,by rw[List.length_take];omega,fun j v y hv hy=>?_⟩
  · rw[List.getElem?_take] at hv;split at hv
    · exact h4 j v hv
    · cases hv
  · rw[List.getElem?_take] at hv hy;split at hv
    · rename_i hj;rw[if_pos hj] at hy;exact h6 j v y hv hy
    · cases hv
theorem jj6 {y:Nd} {ts:List Tk} (h:jn4 y=some ts):ts.length≤2*sizeN y:=by
  unfold jn4 lfO at h;split at h
  · cases h;have:=jlf y;simp;omega
  · cases h
theorem jkf (l:List Nd) (i:Nat):ja8 l=ja8 (l.take i)+ja8 (l.drop i):=by
  conv=>lhs;rw[←List.take_append_drop i l]
  exact jlg _ _
theorem jku {f:Nd→Option (List Tk)} (hf:∀y ts,f y=some ts→ts.length≤2*sizeN y):∀(l:List Nd) (ts:List Tk),shG f l=some ts→ts.length≤2*ja8 l
  | [],ts,h=>by rw[shG] at h;cases h;simp
  | n :: l,ts,h=>by
    rw[shG] at h
    obtain ⟨u,v,h1,h2,rfl⟩:=jhe h
    have:=hf n u h1
    have:=jku hf l v h2
    rw[List.length_append,ja8]
    omega
theorem ji1 (f:Nd→Option (List Tk)) (l:List Nd):jeh f l 0 none=shG f l:=by rw[jgf,if_pos (Nat.zero_le _)]
end
end Go.Proofs.YtonoklmobocikaaGreatDoor
