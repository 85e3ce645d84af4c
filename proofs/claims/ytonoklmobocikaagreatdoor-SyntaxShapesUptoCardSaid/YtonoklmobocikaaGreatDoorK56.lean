/- Lemmas. -/
import Derived.Test.YtonoklmobocikaaGreatDoorK55
set_option linter.unusedVariables false
set_option linter.unusedSimpArgs false
set_option maxRecDepth 20000
set_option maxHeartbeats 6400000
namespace Go.Proofs.YtonoklmobocikaaGreatDoor
section
open Go.RowKit
theorem type_at {x:List UInt8} {j:Nat} (h:(x.take j).all (· != 46)=true) (hj:x[j]?=some 46):jf5 x=(jb8 1 (x.take j)&&jb8 1 (x.drop (j+1))):=by
  obtain ⟨h1,h2⟩:=List.getElem?_eq_some_iff.1 hj;have e:x.takeWhile (· != 46)=x.take j:=tw_at _ x j h (Or.inr ⟨46,x.drop (j+1),by rw[List.drop_eq_getElem_cons h1,h2],rfl⟩);(have hl:(x.take j).length=j:=by rw[List.length_take];omega);unfold jf5;rw[e];dsimp only;rw[hl,if_neg (by omega)]
theorem type_none {x:List UInt8} (h:x.all (· != 46)=true):jf5 x=jb8 1 x:=by
  have e:x.takeWhile (· != 46)=x:=by
    have:=tw_at (· != 46) x x.length (by rw[List.take_length];exact h) (Or.inl (List.drop_length ..))
    rwa [List.take_length] at this
  unfold jf5;rw[e];dsimp only;rw[if_pos rfl]
theorem rtypeOk (s:ByteArray) (hs:s.size≤9223372036854775807) (q:Bool) (hq:jf5 s.data.toList=q) (w:World) :
    Calls Tryz.prog 145 #[.string s] w fun e w'=>e=.returned (.bool q)∧Below w.heap.size w w':=by
  have Hq:=jj hq;clear hq;go_enter Tryz.func145,Tryz.ntmps145;go_wp2_with fail
  go_loopw [3] (fun y wr=>∃j:Nat,j≤s.size∧y=.int .i64 (j:Int)∧(s.data.toList.take j).all (· != 46)=true∧Below w.heap.size w wr) (fun y _=>s.size - (intOf y).toNat)
  case atStart=>exact ⟨0,Nat.zero_le _,rfl,rfl,Below.refl _ _⟩
  case round =>
    obtain ⟨j,hj,rfl,hm,hb⟩:=hrel;obtain ⟨w3,hw3⟩:∃w3,w3=wr:=⟨wr,rfl⟩;subst hw3;have B3:=jj hb;by_cases hlt:j<s.size
    · (have hji:(j:Int)<(s.size:Int):=by omega);have e46:(((s[j]).toNat:Int)==46)=(s[j]==46):=je9 (by decide)
      cases hc:(s[j]==46) with
      | false =>
        rw[hc] at e46;have Hn:=jj (jec (p:=(· != 46)) hm hlt (by show (!(s[j]==46))=true;rw[hc];rfl));clear hm hb hc;go_wp2;go_roundw
        case rel=>exact ⟨j+1,by omega,by go_num,Hn.out,B3.out⟩
        case measure=>simp[intOf];omega
      | true =>
        rw[hc] at e46
        have hx:s.data.toList[j]?=some 46:=by
          (have h1:j<s.data.toList.length:=by rw[size_list];exact hlt);rw[List.getElem?_eq_getElem h1];have:=beq_iff_eq.1 hc;rw[←this];try rfl
        have HE:=jj (show q=(jb8 1 (s.data.toList.take j)&&jb8 1 (s.data.toList.drop (j+1))) by rw[←Hq.out];exact type_at hm hx);have HN1:=jj (fun W=>je2 (s.extract 0 j) _ rfl W);have HN2:=jj (fun W=>je2 (s.extract (j+1) s.size) _ rfl W);rw[jjo] at HN1;rw[jhu] at HN2;(have hji2:(j:Int)+1≤(s.size:Int):=by omega);(have hji3:(j:Int)≤(s.size:Int):=by omega);(have hji4:(s.size:Int)≤9223372036854775807:=by omega);clear hm hb hc hx;obtain ⟨b1,hb1⟩:∃b,jb8 1 (s.data.toList.take j)=b:=⟨_,rfl⟩;obtain ⟨b2,hb2⟩:∃b,jb8 1 (s.data.toList.drop (j+1))=b:=⟨_,rfl⟩;rw[hb1] at HN1 HE;rw[hb2] at HN2 HE;clear hb1 hb2
        cases b1 with
        | false =>
          have Hn:=jj (show false=q by rw[HE.out];rfl);go_wp2_with fail;(with_reducible refine (HN1.out _).mono ?_);rintro e w4 ⟨rfl,hb4⟩;have B4:=jj (B3.out.trans (hb4.mono B3.out.size));clear hb4;go_wp2;go_ret;exact ⟨ja1 Hn.out,B4.out⟩
        | true =>
          have Hn:=jj (show b2=q by rw[HE.out];simp);go_wp2_with fail;(with_reducible refine (HN1.out _).mono ?_);rintro e w4 ⟨rfl,hb4⟩;have B4:=jj (B3.out.trans (hb4.mono B3.out.size));clear hb4;go_wp2_with fail;(with_reducible refine (HN2.out _).mono ?_);rintro e w5 ⟨rfl,hb5⟩;have B5:=jj (B4.out.trans (hb5.mono B4.out.size));clear hb5;go_wp2;go_ret;exact ⟨ja1 Hn.out,B5.out⟩
    · have hji:¬(j:Int)<(s.size:Int):=by omega
      have HN:=jj (je2 s q (by
        rw[List.take_of_length_le (by rw[size_list];omega)] at hm
        rw[←Hq.out,type_none hm]) w3)
      clear hm hb;go_wp2_with fail;(with_reducible refine (HN.out).mono ?_);rintro e w4 ⟨rfl,hb4⟩;have B4:=jj (B3.out.trans (hb4.mono B3.out.size));clear hb4;go_wp2;go_ret;exact ⟨rfl,B4.out⟩
theorem op_mem {x:List UInt8}:opOk x=true↔∃j,j<6∧x∈jkl j:=by
  unfold opOk;rw[List.contains_iff_mem];simp only[List.mem_append];constructor
  · rintro (((((h | h) | h) | h) | h) | h)
    · exact ⟨0,by decide,h⟩
    · exact ⟨1,by decide,h⟩
    · exact ⟨2,by decide,h⟩
    · exact ⟨3,by decide,h⟩
    · exact ⟨4,by decide,h⟩
    · exact ⟨5,by decide,h⟩
  · rintro ⟨j,hj,h⟩;(have:j=0∨j=1∨j=2∨j=3∨j=4∨j=5:=by omega);rcases this with rfl | rfl | rfl | rfl | rfl | rfl<;>simp[h]
theorem ropOk (x:List UInt8) (w:World):Calls Tryz.prog 190 #[.string (bs x)] w fun e w'=>e=.returned (.bool (opOk x))∧Below w.heap.size w w':=by
  obtain ⟨q,hq⟩:=jx (opOk x);rw[hq];have Hq:=jj hq;clear hq;go_enter Tryz.func190,Tryz.ntmps190;go_wp2_with fail
  go_loopw [3] (fun y wr=>∃k:Nat,k≤6∧y=.int .i64 (k:Int)∧(∀j<k,x∉jkl j)∧Below w.heap.size w wr) (fun y _=>6 - (intOf y).toNat)
  case atStart=>exact ⟨0,Nat.zero_le _,rfl,fun j hj=>absurd hj (Nat.not_lt_zero j),Below.refl _ _⟩
  case round =>
    obtain ⟨k,hk,rfl,hno,hb⟩:=hrel;obtain ⟨w3,hw3⟩:∃w3,w3=wr:=⟨wr,rfl⟩;subst hw3;have B3:=jj hb;have N3:=jj hno;by_cases hlt:k<6
    · (have hki:(k:Int)<6:=by omega);have HO:=jj (rops k w3 0 (Nat.zero_le _));obtain ⟨l,hl⟩:=jx (jkl k);rw[hl] at HO;have HL:=jj hl;clear hno hb hl;go_wp2_with fail;(with_reducible refine (HO.out).mono ?_);rintro e w4 ⟨A,n,c,rfl,hs4,hb4⟩;have B4:=jj (B3.out.trans (hb4.mono B3.out.size));have S4:=jj hs4;have hnc:=hs4.1;have hc9:=hs4.2.1;have Hn4:=jj hs4.2.2.1;clear hs4 hb4 HO;go_wp2_with fail
      go_loopw [5] (fun y wr=>∃i:Nat,i≤n∧y=.int .i64 (i:Int)∧x∉l.take i∧wr=w4) (fun y _=>n - (intOf y).toNat)
      case atStart=>exact ⟨0,Nat.zero_le _,rfl,by simp,rfl⟩
      case round =>
        obtain ⟨i,hi,rfl,hni,rfl⟩:=hrel;by_cases hin:i<n
        · (have hii:(i:Int)<(n:Int):=by omega);obtain ⟨o,ho⟩:∃o,l[i]?=some o:=⟨_,List.getElem?_eq_getElem (by rw[Hn4.out];exact hin)⟩;obtain ⟨g,rfl,-,hcell⟩:=S4.out.2.2.2 i o ho
          cases hox:((bs o).toList==(bs x).toList) with
          | true =>
            have hoe:o=x:=by
              rw[Lib.toList_data,Lib.toList_data,jac,jac] at hox;exact beq_iff_eq.1 hox
            have Hn:=jj (show true=q by
              rw[←Hq.out]
              exact (op_mem.2 ⟨k,hlt,by rw[HL.out,←hoe];exact List.mem_of_getElem? ho⟩).symm)
            clear hni ho hoe;go_wp2;go_ret;exact ⟨ja1 Hn.out,B4.out⟩
          | false =>
            have hoe:¬x=o:=fun e=>by rw[e] at hox;simp at hox
            have Hn:=jj (show x∉l.take (i+1) by
              obtain ⟨h1,e⟩:=List.getElem?_eq_some_iff.1 ho;rw[List.take_succ_eq_append_getElem h1,e,List.mem_append,List.mem_singleton]
              exact fun h=>h.elim hni hoe)
            clear hni ho hoe;go_wp2;go_roundw
            case rel=>exact ⟨i+1,by omega,by go_num,Hn.out,trivial⟩
            case measure=>simp[intOf];omega
        · have hii:¬(i:Int)<(n:Int):=by omega
          have Hn:=jj (show ∀j<k+1,x∉jkl j from fun j hj=>by
            rcases Nat.lt_or_ge j k with h1 | h1
            · exact N3.out j h1
            · (obtain rfl:j=k:=by omega);rw[HL.out];rw[List.take_of_length_le (by rw[Hn4.out];omega)] at hni
              exact hni)
          clear hni;go_wp2;go_roundw
          case rel=>exact ⟨k+1,by omega,by go_num,Hn.out,B4.out⟩
          case measure=>simp[intOf];omega
    · have hki:¬(k:Int)<6:=by omega
      have Hn:=jj (show false=q by
        rw[←Hq.out]
        cases ho:opOk x with
        | false=>rfl
        | true=>obtain ⟨j,hj,h⟩:=op_mem.1 ho;exact absurd h (N3.out j (by omega)))
      clear hno hb;go_wp2;go_ret;exact ⟨ja1 Hn.out,B3.out⟩
def codeW:Wh→Option Int
  | .expr=>some 0 | .arg=>some 1 | .typ=>some 2 | .types=>some 3 | .param=>some 4 | .stmt=>some 5 | .block=>some 6 | .decl=>some 7 | .member=>some 8 | .sig=>some 9
  | .lst _ _ _=>none
def jdd (n:Nd):Prop:=∀(w:Wh) (c:Int),codeW w=some c→∀(W:World) (ok:Nat→Prop) (v:Value),NdV W ok v n →
  Calls Tryz.prog 92 #[v,.int .i64 c,.bool false] W fun e w'=>e=.returned (.bool (jat false n w))∧Below W.heap.size W w'
theorem fitL_snoc {l:List Nd} {i:Nat} {y:Nd} {w:Wh} (hy:l[i]?=some y):jcs false (l.take (i+1)) w=(jcs false (l.take i) w&&jat false y w)∧(jat false y w=false→jcs false l w=false):=by
  have app:∀(a b:List Nd),jcs false (a++b) w=(jcs false a w&&jcs false b w):=by
    intro a b
    induction a with
    | nil=>rw[jdg];simp
    | cons n a ih=>rw[List.cons_append,je6,je6,ih,Bool.and_assoc]
  obtain ⟨h1,e⟩:=List.getElem?_eq_some_iff.1 hy;(have ht:l.take (i+1)=l.take i++[y]:=by rw[List.take_succ_eq_append_getElem h1,e]);(have h2:jcs false (l.take (i+1)) w=(jcs false (l.take i) w&&jat false y w):=by rw[ht,app,je6,jdg,Bool.and_true]);refine ⟨h2,fun h=>?_⟩;rw[←List.take_append_drop (i+1) l,app,h2,h];simp
theorem jlo {W:World} {ok:Nat→Prop} {A:Option Addr} {m d:Nat} {l:List Nd} (h:NdS W ok A m d l) (hp:∀y∈l,jdd y) (w:Wh) (c:Int) (hc:codeW w=some c) :
    Calls Tryz.prog 47 #[.slice A m d,.int .i64 c,.bool false] W fun e w'=>e=.returned (.bool (jcs false l w))∧Below W.heap.size W w':=by
  obtain ⟨q,hq⟩:=jx (jcs false l w);rw[hq];have HQ:=jj hq;have hl:=h.len;have hmd:=hl.2.1;have hdd:=hl.2.2;have HN:=jj h;have HLn:=jj hl.1;have HP:=jj hp;have HCw:=jj hc;clear h hl hp hq hc;go_enter Tryz.func47,Tryz.ntmps47;go_wp2_with fail
  go_loopw [7] (fun y wr=>∃i:Nat,i≤m∧y=.int .i64 (i:Int)∧jcs false (l.take i) w=true∧Below W.heap.size W wr) (fun y _=>m - (intOf y).toNat)
  case atStart=>exact ⟨0,Nat.zero_le _,rfl,by rw[List.take_zero,jdg],Below.refl _ _⟩
  case round =>
    obtain ⟨i,hi,rfl,hm,hb⟩:=hrel;obtain ⟨w3,hw3⟩:∃w3,w3=wr:=⟨wr,rfl⟩;subst hw3;have B3:=jj hb;have M3:=jj hm;by_cases hlt:i<m
    · (have hki:(i:Int)<(m:Int):=by omega);obtain ⟨g,o,y,yA,ym,yd,rfl,hy,ry,x0,x1,x2,x3,x4⟩:=(HN.out.kept hb).at_ hlt;have HC:=jj (HP.out y (List.mem_of_getElem? hy) w c HCw.out w3 _ _ (jb7 ry));obtain ⟨n1,n2⟩:=fitL_snoc (w:=w) hy
      cases hf:jat false y w with
      | true =>
        rw[hf] at HC;have Hn:=jj (show jcs false (l.take (i+1)) w=true by rw[n1,M3.out,hf];rfl);clear hy ry hb hm hf n1 n2;go_wp2_with fail;(with_reducible refine HC.out.mono ?_);rintro e4 w4 ⟨rfl,hb4⟩;have B4:=jj (B3.out.trans (hb4.mono B3.out.size));clear hb4 x0 x1 x2 x3 x4;go_wp2;go_roundw
        case rel=>exact ⟨i+1,by omega,by go_num,Hn.out,B4.out⟩
        case measure=>simp[intOf];omega
      | false =>
        rw[hf] at HC;have Hn:=jj (show false=q by rw[←HQ.out,n2 hf]);clear hy ry hb hm hf n1 n2;go_wp2_with fail;(with_reducible refine HC.out.mono ?_);rintro e4 w4 ⟨rfl,hb4⟩;have B4:=jj (B3.out.trans (hb4.mono B3.out.size));clear hb4 x0 x1 x2 x3 x4;go_wp2;go_ret;exact ⟨ja1 Hn.out,B4.out⟩
    · (have hki:¬(i:Int)<(m:Int):=by omega);have Hn:=jj (show true=q by rw[←HQ.out];rw[List.take_of_length_le (by rw[HLn.out];omega)] at hm;exact hm.symm);clear hb hm;go_wp2;go_ret;exact ⟨ja1 Hn.out,B3.out⟩
def mostI:Option Nat→Int | none=>-1 | some k=>(k:Int)
def underM (most:Option Nat) (n:Nat):Bool:=match most with | none=>true | some m=>decide (n≤m)
theorem fit_lst (k a e:Int) (x:List UInt8) (l:List Nd) (w:Wh) (least:Nat) (most:Option Nat):jat false (.mk k x a e l) (.lst w least most)=(k==24&&(x==[]&&(jcs false l w&&(decide (least≤l.length)&&underM most l.length)))):=by
  unfold jat underM;cases most<;>simp only[Bool.and_assoc]
theorem rall {n:Nd} (hp:∀y∈n.kids,jdd y) (w:Wh) (c:Int) (hc:codeW w=some c) (least:Nat) (most:Option Nat) (hle:least≤10) (hmo:∀k,most=some k→k≤10) (W:World) (ok:Nat→Prop) (v:Value) (hv:NdV W ok v n) :
    Calls Tryz.prog 191 #[v,.int .i64 c,.int .i64 (least:Int),.int .i64 (mostI most),.bool false] W fun e w'=>e=.returned (.bool (jat false n (.lst w least most)))∧Below W.heap.size W w':=by
  cases hv with
  | mk k a e x B m d vs l hvs hlen hr =>
  have hT:NdS W ok B m d l:=⟨vs,hvs,hlen,hr⟩;obtain ⟨q,hq⟩:=jx (jat false (.mk k x a e l) (.lst w least most));rw[hq];rw[fit_lst] at hq;have HQ:=jj hq;have hb1:=jak (Below.refl W.heap.size W) (.cells #[.int .i64 k,.string (bs x),.int .i64 a,.int .i64 e,.slice B m d] 25);have hF:=ja6 W (.int .i64 k) (.string (bs x)) (.int .i64 a) (.int .i64 e) (.slice B m d) 25;obtain ⟨w1,hw1⟩:=jx (W.alloc (.cells #[.int .i64 k,.string (bs x),.int .i64 a,.int .i64 e,.slice B m d] 25));rw[hw1] at hb1 hF;have hmd:=hvs.1;have hdd:=hvs.2.1;have HE:=jj (jlo (hT.kept hb1) hp w c hc);have HB:=jj hb1;have HW:=jj hw1;have HLe:=jj hlen;obtain ⟨-,t0,t1,t2,t3,t4⟩:=hF;clear hvs hlen hr hT hq hw1 hb1 hp hc;by_cases hk:k=24
  case neg =>
    have e1:(k==24)=false:=beq_eq_false_iff_ne.2 hk;have Hn:=jj (show false=q by rw[←HQ.out,e1];rfl);clear hk;go_enter Tryz.func191,Tryz.ntmps191;go_upto_region 1 with fail;rw[HW.out];go_wp2;go_ret;exact ⟨ja1 Hn.out,HB.out⟩
  have e1:(k==24)=true:=beq_iff_eq.2 hk;by_cases hx:x=[]
  case neg =>
    (have e2:((bs x).toList==[])=false:=by rw[Lib.toList_data,jac];exact beq_eq_false_iff_ne.2 hx);have Hn:=jj (show false=q by rw[←HQ.out,e1,beq_eq_false_iff_ne.2 hx];rfl);clear hk hx;go_enter Tryz.func191,Tryz.ntmps191;go_upto_region 1 with fail;rw[HW.out];go_wp2;go_ret;exact ⟨ja1 Hn.out,HB.out⟩
  (have e2:((bs x).toList==[])=true:=by rw[Lib.toList_data,jac,hx];rfl);have HQ:=jj (show (jcs false l w&&(decide (least≤l.length)&&underM most l.length))=q by rw[←HQ.out,e1,hx];rfl);obtain ⟨b,hb⟩:=jx (jcs false l w);rw[hb] at HE HQ;clear hk hx hb
  cases b with
  | false =>
    have Hn:=jj (show false=q by rw[←HQ.out];rfl);go_enter Tryz.func191,Tryz.ntmps191;go_upto_region 1 with fail;rw[HW.out];go_wp2_with fail;(with_reducible refine HE.out.mono ?_);rintro e2 w2 ⟨rfl,hb2⟩;have B2:=jj (bgo HB.out hb2);clear hb2;go_wp2;go_ret;exact ⟨ja1 Hn.out,B2.out⟩
  | true =>
    have hF2:=jj (show ∀X,Below w1.heap.size w1 X→X.cell? ⟨W.heap.size,4,none⟩=some (.slice B m d) from fun X hX=>(hX.cell (p:=⟨W.heap.size,4,none⟩) (World.block_lt_of_cell? _ _ t4)).trans t4);by_cases hl:least≤m
    case neg =>
      have e3:decide ((m:Int)≥(least:Int))=false:=decide_eq_false (by omega);have e4:decide ((least:Int)≤(m:Int))=false:=decide_eq_false (by omega);have e5:decide (least≤m)=false:=decide_eq_false hl;have Hn:=jj (show false=q by rw[←HQ.out,HLe.out,e5];rfl);clear hl;go_enter Tryz.func191,Tryz.ntmps191;go_upto_region 1 with fail;rw[HW.out];go_wp2_with fail;(with_reducible refine HE.out.mono ?_);rintro e2 w2 ⟨rfl,hb2⟩;have B2:=jj (bgo HB.out hb2);have z4:=hF2.out _ hb2;clear hb2 t0 t1 t2 t3 t4;go_wp2;go_ret;exact ⟨ja1 Hn.out,B2.out⟩
    have e3:decide ((m:Int)≥(least:Int))=true:=decide_eq_true (by omega);have e4:decide ((least:Int)≤(m:Int))=true:=decide_eq_true (by omega);have e5:decide (least≤m)=true:=decide_eq_true hl
    cases most with
    | none =>
      have Hn:=jj (show true=q by rw[←HQ.out,HLe.out,e5];rfl);clear hl;unfold mostI;go_enter Tryz.func191,Tryz.ntmps191;go_upto_region 1 with fail;rw[HW.out];go_wp2_with fail;(with_reducible refine HE.out.mono ?_);rintro e2 w2 ⟨rfl,hb2⟩;have B2:=jj (bgo HB.out hb2);have z4:=hF2.out _ hb2;clear hb2 t0 t1 t2 t3 t4;go_wp2;go_ret;exact ⟨ja1 Hn.out,B2.out⟩
    | some r =>
      have hr10:=hmo r rfl;have Hn:=jj (show decide (m≤r)=q by rw[←HQ.out,HLe.out,e5];unfold underM;rfl);have e6:decide ((r:Int)<0)=false:=decide_eq_false (by omega);clear hl hmo;unfold mostI;by_cases hmr:m≤r
      · have e7:decide ((m:Int)≤(r:Int))=true:=decide_eq_true (by omega);have e8:decide (m≤r)=true:=decide_eq_true hmr;have Hn:=jj (show true=q by rw[←Hn.out,e8]);clear hmr;go_enter Tryz.func191,Tryz.ntmps191;go_upto_region 1 with fail;rw[HW.out];go_wp2_with fail;(with_reducible refine HE.out.mono ?_);rintro e2 w2 ⟨rfl,hb2⟩;have B2:=jj (bgo HB.out hb2);have z4:=hF2.out _ hb2;clear hb2 t0 t1 t2 t3 t4;go_wp2;go_ret;exact ⟨ja1 Hn.out,B2.out⟩
      · have e7:decide ((m:Int)≤(r:Int))=false:=decide_eq_false (by omega);have e8:decide (m≤r)=false:=decide_eq_false hmr;have Hn:=jj (show false=q by rw[←Hn.out,e8]);clear hmr;go_enter Tryz.func191,Tryz.ntmps191;go_upto_region 1 with fail;rw[HW.out];go_wp2_with fail;(with_reducible refine HE.out.mono ?_);rintro e2 w2 ⟨rfl,hb2⟩;have B2:=jj (bgo HB.out hb2);have z4:=hF2.out _ hb2;clear hb2 t0 t1 t2 t3 t4;go_wp2;go_ret;exact ⟨ja1 Hn.out,B2.out⟩
end
end Go.Proofs.YtonoklmobocikaaGreatDoor
