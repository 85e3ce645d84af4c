/- Lemmas. -/
import Derived.Test.YtonoklmobocikaaGreatDoorK29
set_option linter.unusedVariables false
set_option linter.unusedSimpArgs false
set_option maxRecDepth 20000
set_option maxHeartbeats 6400000
namespace Go.Proofs.YtonoklmobocikaaGreatDoor
section
theorem mem_kw {t:List UInt8} (h:jjm t=true):t∈kwL:=by unfold jjm at h;simpa using h
theorem jkp:jcd 0 []=11:=by decide
end
section
open Go.RowKit
open Go.Lib (byteCells strCells)
open Go.ChangeShapes (block_add)
open Go.Deep (add_add)
theorem jfh (l:List UInt8):(byteCells l).length=l.length:=by simp[byteCells]
theorem bytes_get (l:List UInt8) (k:Nat) (u:Value) (h:(byteCells l)[k]?=some u):∃b,l[k]?=some b∧u=.int .u8 (b.toNat:Int):=by
  unfold byteCells at h;rw[List.getElem?_map] at h
  cases hl:l[k]? with
  | none=>rw[hl] at h;simp at h
  | some a=>rw[hl] at h;simp at h;exact ⟨a,rfl,h.symm⟩
theorem Reads.byte {w:World} {B n:Nat} {A:Option Addr} {l:List UInt8} (h:Reads w B A n (byteCells l)) {k:Nat} (hk:k<n) :
    ∃ad b,A=some ad∧l[k]?=some b∧w.cell? (ad.add k)=some (.int .u8 (b.toNat:Int)):=by
  obtain ⟨ad,u,hA,_,hu,hc⟩:=h.at_ hk;obtain ⟨b,hb,rfl⟩:=bytes_get l k u hu;exact ⟨ad,b,hA,hb,hc⟩
theorem conv_run {P:Program} {w:World} {B n c:Nat} {A:Option Addr} {l:List UInt8} (h:Reads w B A n (byteCells l)) (src dst e:TypeId) (hs:P.underlying src=some (.slice e)) (he:P.underlying e=some (.int .u8)) (hd:P.underlying dst=some .string) (hA:A=none→n=0) :
    (convert src dst (.slice A n c)).run P w=.ok (.string ⟨l.toArray⟩) w:=by
  rw[run_convert_bytes_string w src dst e _ n c hs he hd];have hlen:l.length=n:=by rw[←jfh];exact h.1
  cases A with
  | none =>
    have:n=0:=hA rfl;subst this;obtain rfl:l=[]:=List.eq_nil_of_length_eq_zero hlen;simp[Conv.bytesToString];rfl
  | some a =>
    have hl:(loadCells a n).run P w=.ok ((l.map fun b:UInt8=>(b.toNat:Int)).map (Value.int .u8)).toArray w:=by
      have:=run_loadCells_list (P:=P) w a ((l.map fun b:UInt8=>(b.toNat:Int)).map (Value.int .u8)) (fun j v hj=>by
        have hjn:j<n:=by
          rcases Nat.lt_or_ge j n with h | h
          · exact h
          · rw[List.getElem?_eq_none (by simp;omega)] at hj;cases hj
        obtain ⟨ad,b,hA,hb,hc⟩:=h.byte hjn;cases hA;rw[hc,←hj]
        simp[hb])
      simpa [hlen] using this
    rw[run_bytesToString w a n c _ hl,foldl_push_bytes];congr 2;apply jn0
    have e1:List.map ((fun n:Int=>UInt8.ofNat n.toNat) ∘ fun b:UInt8=>(b.toNat:Int)) l=l:=by
      conv=>rhs;rw[←List.map_id l]
      exact List.map_congr_left fun x _=>by simp
    simp[ByteArray.empty,ByteArray.emptyWithCapacity];rw[e1];try rfl
theorem Own.sl5 {w:World} {B:Nat} {v:Value} {l:List UInt8} (h:Own w B 5 v (byteCells l)):∃A m c,v=.slice A m c∧m=l.length∧Sl w A m c (byteCells l):=by
  obtain ⟨A,c,rfl,hs⟩:=h.sl;exact ⟨A,_,c,rfl,jfh l,hs⟩
end
section
open Go.RowKit
theorem jmv (c:UInt8) (w:World):Calls Tryz.prog 151 #[.int .u8 (c.toNat:Int)] w fun e w'=>e=.returned (.bool (dgB c))∧w=w':=by
  have hc:=jgc c
  by_cases h1:48≤c.toNat<;>by_cases h2:c.toNat≤57<;>
  first
  | (exfalso;omega)
  | (have Hq:=jj (show dgB c=(decide (48≤c.toNat)&&decide (c.toNat≤57)) from rfl)
     go_enter Tryz.func151,Tryz.ntmps151;go_wp2;go_ret
     exact ⟨ja1 (by rw[Hq.out];simp[h1,h2]<;>omega),rfl⟩)
theorem jjt (c:UInt8) (w:World):Calls Tryz.prog 149 #[.int .u8 (c.toNat:Int)] w fun e w'=>e=.returned (.bool (ltB c))∧w=w':=by
  have hc:=jgc c;have h95:=beq95 c;obtain ⟨q,hq⟩:=jx ((c==95));rw[hq] at h95;have Hq:=jj (show ltB c=((decide (65≤c.toNat)&&decide (c.toNat≤90))||(decide (97≤c.toNat)&&decide (c.toNat≤122))||q) by unfold ltB;rw[hq]);clear hq
  cases q<;>by_cases h1:65≤c.toNat<;>by_cases h2:c.toNat≤90<;>by_cases h3:97≤c.toNat<;>by_cases h4:c.toNat≤122<;>
  first
  | (exfalso;omega)
  | (go_enter Tryz.func149,Tryz.ntmps149
     go_wp2;go_ret
     exact ⟨ja1 (by rw[Hq.out];simp[h1,h2,h3,h4]<;>omega),rfl⟩)
end
section
open Go.RowKit
theorem jhc {s:ByteArray} {m:Nat} (h:¬m<s.size):s.data.toList.drop m=[]:=List.drop_eq_nil_of_le (by rw[size_list];omega)
theorem word_at {s:ByteArray} {j:Nat} (h:j<s.size) (hw:wdB s[j]=true):(jbl (s.data.toList.drop j)).length=(jbl (s.data.toList.drop (j+1))).length+1:=by
  rw[jcp h];unfold jbl;rw[jm4 _ _ hw];try rfl
theorem word_stop {s:ByteArray} {j:Nat} (h:j<s.size) (hw:wdB s[j]=false):(jbl (s.data.toList.drop j)).length=0:=by
  rw[jcp h];unfold jbl;simp[List.takeWhile,hw]
theorem word_end {s:ByteArray} {j:Nat} (h:¬j<s.size):(jbl (s.data.toList.drop j)).length=0:=by
  rw[jhc h];try rfl
theorem rword (s:ByteArray) (k:Nat) (hk:k≤s.size) (hs:s.size≤2000000) (E:Nat) (hE:k+(jbl (s.data.toList.drop k)).length=E) (w:World) :
    Calls Tryz.prog 150 #[.string s,.int .i64 (k:Int)] w fun e w'=>e=.returned (.int .i64 (E:Int))∧w=w':=by
  have HE:=jj hE;clear hE;go_enter Tryz.func150,Tryz.ntmps150;go_wp2_with fail
  go_loopw [1] (fun y wr=>∃j:Nat,j≤s.size∧y=.int .i64 (j:Int)∧j+(jbl (s.data.toList.drop j)).length=E∧wr=w) (fun y _=>s.size - (intOf y).toNat)
  case atStart=>exact ⟨k,hk,rfl,HE.out,rfl⟩
  case round =>
    clear HE hk;obtain ⟨j,hj,rfl,hjE,rfl⟩:=hrel;by_cases hlt:j<s.size
    · (have hji:(j:Int)<(s.size:Int):=by omega);have HL:=jj (fun W=>jjt s[j] W);have HD:=jj (fun W=>jmv s[j] W)
      cases hw:wdB s[j] with
      | true =>
        have Hn:=jj (show j+1+(jbl (s.data.toList.drop (j+1))).length=E by have:=word_at hlt hw;omega)
        cases hl:ltB s[j] with
        | true =>
          rw[hl] at HL;clear hjE hw hl;go_wp2_with fail;(with_reducible refine (HL.out _).mono ?_);rintro e w3 ⟨rfl,rfl⟩;go_wp2;go_roundw
          case rel=>exact ⟨j+1,by omega,by go_num,Hn.out,trivial⟩
          case measure=>simp[intOf];omega
        | false =>
          (have hd:dgB s[j]=true:=by unfold wdB at hw;rwa [hl,Bool.false_or] at hw);rw[hl] at HL;rw[hd] at HD;clear hjE hw hl hd;go_wp2_with fail;(with_reducible refine (HL.out _).mono ?_);rintro e w3 ⟨rfl,rfl⟩;go_wp2_with fail;(with_reducible refine (HD.out _).mono ?_);rintro e w3 ⟨rfl,rfl⟩;go_wp2;go_roundw
          case rel=>exact ⟨j+1,by omega,by go_num,Hn.out,trivial⟩
          case measure=>simp[intOf];omega
      | false =>
        have Hn:=jj (show j=E by have:=word_stop hlt hw;omega);(have hl:ltB s[j]=false:=by unfold wdB at hw;exact (Bool.or_eq_false_iff.1 hw).1);(have hd:dgB s[j]=false:=by unfold wdB at hw;exact (Bool.or_eq_false_iff.1 hw).2);rw[hl] at HL;rw[hd] at HD;clear hjE hw hl hd;go_wp2_with fail;(with_reducible refine (HL.out _).mono ?_);rintro e w3 ⟨rfl,rfl⟩;go_wp2_with fail;(with_reducible refine (HD.out _).mono ?_);rintro e w3 ⟨rfl,rfl⟩;go_wp2;go_ret;exact ⟨jck (by rw[Hn.out]),rfl⟩
    · (have hji:¬(j:Int)<(s.size:Int):=by omega);have Hn:=jj (show j=E by have:=word_end hlt;omega);clear hjE;go_wp2;go_ret;exact ⟨jck (by rw[Hn.out]),rfl⟩
theorem right_kw (t:List UInt8):jb8 2 t=jjm t:=by
  rw[jki,form2]
  cases h:jjm t with
  | false=>rfl
  | true =>
    have:=(jlv t (mem_kw h)).2.2.2;rw[decide_eq_true (show t.length≤jl0 2 from this)];try rfl
theorem jmf (t:List UInt8):jb8 5 t=jim t:=by
  rw[jki,form5]
  cases h:jim t with
  | false=>rfl
  | true =>
    have:=(jnm t (mem_mk h)).2.2.2.2.2.1;rw[decide_eq_true (show t.length≤jl0 5 by show t.length≤24;omega)];try rfl
end
section
open Go.RowKit
theorem sk_bl {c:UInt8} {r:List UInt8} (h:blB c=true):skS (c :: r)=skS r:=by rw[skS,skB.eq_2,if_pos h]
theorem sk_com (r:List UInt8):skS (47 :: 47 :: r)=skB true (47 :: 47 :: r):=by
  (have:blB 47=false:=by decide);rw[skS,skB.eq_2,if_neg (by rw[this];decide),if_pos ⟨rfl,rfl⟩];try rfl
theorem sk_stay {c:UInt8} {r:List UInt8} (h:blB c=false) (h2:¬(c=47∧r.head?=some 47)):skS (c :: r)=c :: r:=by
  rw[skS,skB.eq_2,if_neg (by rw[h];decide),if_neg h2]
theorem sk_in {c:UInt8} {r:List UInt8} (h:¬c=10):skB true (c :: r)=skB true r:=by rw[skB.eq_3,if_neg h]
theorem sk_out (r:List UInt8):skB true (10 :: r)=skS (10 :: r):=by
  rw[skB.eq_3,if_pos rfl,sk_bl (by decide)]
theorem sk_size {s:ByteArray} {j:Nat} {R:List UInt8} (h:s.data.toList.drop j=R) (hj:j≤s.size):j=s.size - R.length:=by
  rw[←h,List.length_drop,size_list];omega
set_option maxRecDepth 100000 in
theorem rskip (s:ByteArray) (k:Nat) (hk:k≤s.size) (hs:s.size≤2000000) (E:Nat) (hE:s.size - (skS (s.data.toList.drop k)).length=E) (w:World) :
    Calls Tryz.prog 94 #[.string s,.int .i64 (k:Int)] w fun e w'=>e=.returned (.int .i64 (E:Int))∧w=w':=by
  obtain ⟨R,hR⟩:=jx (skS (s.data.toList.drop k));rw[hR] at hE;have HE:=jj hE;have HR:=jj hR;clear hE hR;go_enter Tryz.func94,Tryz.ntmps94;go_wp2_with fail
  go_loopw [1] (fun y wr=>∃j:Nat,j≤s.size∧y=.int .i64 (j:Int)∧skS (s.data.toList.drop j)=R∧wr=w) (fun y _=>s.size - (intOf y).toNat)
  case atStart=>exact ⟨k,hk,rfl,HR.out,rfl⟩
  case round =>
    clear HR hk;obtain ⟨j,hj,rfl,hjR,hww⟩:=hrel;obtain ⟨w1,hw1⟩:∃w1,w1=wr:=⟨wr,rfl⟩;subst hw1;have Hww:=jj hww;clear hww;by_cases hlt:j<s.size
    · (have hji:(j:Int)<(s.size:Int):=by omega);have hd:=jcp hlt;have q32:(((s[j]).toNat:Int)==32)=(s[j]==32):=je9 (by decide);have q9:(((s[j]).toNat:Int)==9)=(s[j]==9):=je9 (by decide);have q10:(((s[j]).toNat:Int)==10)=(s[j]==10):=je9 (by decide);have q47:(((s[j]).toNat:Int)==47)=decide (s[j]=47):=je9 (n:=47) (by decide);obtain ⟨b32,h32⟩:∃b,(s[j]==32)=b:=⟨_,rfl⟩;obtain ⟨b9,h9⟩:∃b,(s[j]==9)=b:=⟨_,rfl⟩;obtain ⟨b10,h10⟩:∃b,(s[j]==10)=b:=⟨_,rfl⟩;rw[h32] at q32;rw[h9] at q9;rw[h10] at q10;(have hbl:blB s[j]=(b32||b9||b10):=by unfold blB;rw[h32,h9,h10]);by_cases hb:blB s[j]=true
      · have Hn:=jj (show skS (s.data.toList.drop (j+1))=R by rw[←hjR,hd,sk_bl hb]);rw[hb] at hbl;clear hjR hd hb h32 h9 h10 q47;cases b32
        · cases b9
          · cases b10
            · cases hbl
            · clear hbl;go_wp2;go_roundw
              case rel=>exact ⟨j+1,by omega,by go_num,Hn.out,Hww.out⟩
              case measure=>simp[intOf];omega
          · clear hbl;go_wp2;go_roundw
            case rel=>exact ⟨j+1,by omega,by go_num,Hn.out,Hww.out⟩
            case measure=>simp[intOf];omega
        · clear hbl;go_wp2;go_roundw
          case rel=>exact ⟨j+1,by omega,by go_num,Hn.out,Hww.out⟩
          case measure=>simp[intOf];omega
      · (have hb0:blB s[j]=false:=by simpa using hb);rw[hb0] at hbl;have hbl2:=hbl.symm;clear hbl;rw[Bool.or_eq_false_iff,Bool.or_eq_false_iff] at hbl2;obtain ⟨⟨rfl,rfl⟩,rfl⟩:=hbl2;clear h32 h9;by_cases hc:s[j]=47
        · rw[decide_eq_true hc] at q47;by_cases hlt2:j+1<s.size
          · (have hji2:(j:Int)+1<(s.size:Int):=by omega);have hd2:=jcp hlt2;have q47b:(((s[j+1]).toNat:Int)==47)=decide (s[j+1]=47):=je9 (n:=47) (by decide);by_cases hc2:s[j+1]=47
            · rw[decide_eq_true hc2] at q47b;have Hn:=jj (show skB true (s.data.toList.drop j)=R by rw[←hjR,hd,hd2,hc,hc2,sk_com]);have Hne:=jj (show ¬s[j]=10 by rw[hc];decide);(have hlt3:j≤s.size:=by omega);clear hjR hd hd2 hb hb0 h10 hc hc2;go_wp2_with fail
              go_loopw [1] (fun y wr=>∃i:Nat,j≤i∧i≤s.size∧y=.int .i64 (i:Int)∧skB true (s.data.toList.drop i)=R∧wr=w1) (fun y _=>s.size - (intOf y).toNat)
              case atStart=>exact ⟨j,Nat.le_refl _,by omega,rfl,Hn.out,rfl⟩
              case round =>
                obtain ⟨i,hij,hi,rfl,hiR,hww2⟩:=hrel;obtain ⟨w2,hw2⟩:∃w2,w2=wr:=⟨wr,rfl⟩;subst hw2;have Hww2:=jj (hww2.trans Hww.out);have Hww3:=jj hww2;clear hww2;by_cases hil:i<s.size
                · (have hii:(i:Int)<(s.size:Int):=by omega);have hdi:=jcp hil;have qi:(((s[i]).toNat:Int)==10)=decide (s[i]=10):=je9 (n:=10) (by decide);by_cases hi10:s[i]=10
                  · rw[decide_eq_true hi10] at qi;(have qi':(((s[i]).toNat:Int) != 10)=false:=by unfold bne;rw[qi];rfl);have Hm:=jj (show skS (s.data.toList.drop i)=R by rw[←hiR,hdi,hi10,sk_out])
                    have hne:j≠i:=by
                      intro e;subst e;exact Hne.out hi10
                    (have hlt4:j<i:=by omega);clear hiR hdi hi10 hne;go_wp2;go_roundw
                    case rel=>exact ⟨i,by omega,rfl,Hm.out,Hww2.out⟩
                    case measure=>simp[intOf];omega
                  · rw[decide_eq_false hi10] at qi;(have qi':(((s[i]).toNat:Int) != 10)=true:=by unfold bne;rw[qi];rfl);have Hm:=jj (show skB true (s.data.toList.drop (i+1))=R by rw[←hiR,hdi,sk_in hi10]);clear hiR hdi hi10;go_wp2;go_roundw
                    case rel=>exact ⟨i+1,by omega,by omega,by go_num,Hm.out,Hww3.out⟩
                    case measure=>simp[intOf];omega
                · (have hii:¬(i:Int)<(s.size:Int):=by omega);have Hm:=jj (show skS (s.data.toList.drop i)=R by rw[←hiR,jhc hil];rfl);(have hlt4:j<i:=by omega);clear hiR;go_wp2;go_roundw
                  case rel=>exact ⟨i,by omega,rfl,Hm.out,Hww2.out⟩
                  case measure=>simp[intOf];omega
            · rw[decide_eq_false hc2] at q47b
              have Hy:=jj (show j=E by
                rw[←HE.out,←hjR,hd,sk_stay hb0 (fun h=>hc2 (by rw[hd2] at h;injection h.2)),←hd]
                exact sk_size rfl hj)
              clear hjR hd hd2 hb hb0 h10 hc hc2;go_wp2;go_ret;exact ⟨jck (by rw[Hy.out]),Hww.out.symm⟩
          · have hji2:¬(j:Int)+1<(s.size:Int):=by omega
            have Hy:=jj (show j=E by
              rw[←HE.out,←hjR,hd,sk_stay hb0 (fun h=>by rw[jhc hlt2] at h;cases h.2),←hd]
              exact sk_size rfl hj)
            clear hjR hd hb hb0 h10 hc;go_wp2;go_ret;exact ⟨jck (by rw[Hy.out]),Hww.out.symm⟩
        · rw[decide_eq_false hc] at q47
          have Hy:=jj (show j=E by
            rw[←HE.out,←hjR,hd,sk_stay hb0 (fun h=>hc h.1),←hd]
            exact sk_size rfl hj)
          clear hjR hd hb hb0 h10 hc;go_wp2;go_ret;exact ⟨jck (by rw[Hy.out]),Hww.out.symm⟩
    · have hji:¬(j:Int)<(s.size:Int):=by omega
      have Hy:=jj (show j=E by
        rw[←HE.out,←hjR,jhc hlt];show j=s.size - 0
        omega)
      clear hjR;go_wp2;go_ret;exact ⟨jck (by rw[Hy.out]),Hww.out.symm⟩
end
section
open Go.RowKit
theorem jbq {fn:Func} {p u:Tmp} (h:fn.results=#[.cell p 66,.tmp u]) (tmps:Array Value) (W:World) (b:Nat) (c0 c1 c2 c3 z:Value) (hp:tmps.getD p undef=.pointer (some ⟨b,0,none⟩)) (hu:tmps.getD u undef=z) (hf:Four W b c0 c1 c2 c3) :
    (results fn tmps).run Tryz.prog W=.ok (.tuple #[.agg #[c0,c1,c2,c3],z]) W:=by
  rw[results_cell_tmp h,hp,hu];simp[asAddr,load_four hf,Result.andThen]
end
section
open Go.RowKit
def GotE (w:World) (k:Nat) (q:Int) (x:Int × List UInt8 × Nat) (e:Ending) (w':World):Prop :=
  ∃(K:Int) (T:ByteArray) (a E:Int),e=.returned (.tuple #[.agg #[.int .i64 K,.string T,.int .i64 a,.int .i64 E],.int .i64 q])∧(q=0→K=x.1∧T=bs x.2.1∧a=(k:Int)∧E=((k+x.2.2:Nat):Int))∧Below w.heap.size w w'
theorem ext_bs (s:ByteArray) (k n:Nat):s.extract k (k+n)=bs ((s.data.toList.drop k).take n):=by
  refine jn0 ?_;rw[jac];simp
theorem int_at {s:ByteArray} {j:Nat} (h:j<s.size) (hw:dgB s[j]=true):(jho (s.data.toList.drop j)).length=(jho (s.data.toList.drop (j+1))).length+1:=by
  rw[jcp h];unfold jho;rw[jm4 _ _ hw];try rfl
theorem int_stop {s:ByteArray} {j:Nat} (h:j<s.size) (hw:dgB s[j]=false):(jho (s.data.toList.drop j)).length=0:=by
  rw[jcp h];unfold jho;simp[List.takeWhile,hw]
theorem int_end {s:ByteArray} {j:Nat} (h:¬j<s.size):(jho (s.data.toList.drop j)).length=0:=by
  rw[jhc h];try rfl
theorem num_fault {c:UInt8} {x:List UInt8} (h:dgB c=true):jcd 3 (jho (c :: x))=if c=48∧1<(jho (c :: x)).length then 11 else if 9<(jho (c :: x)).length then 4 else 0:=by
  have hall:(jho (c :: x)).all dgB=true:=tw_all _;have e:jho (c :: x)=c :: jho x:=jm4 c x h;unfold jcd;rw[form3,hall,show jl0 3=9 from rfl];rw[e];simp only[List.isEmpty_cons,Bool.not_false,List.headD_cons,Bool.true_and,Bool.and_true];by_cases h48:c=48
  · subst h48
    cases hx:jho x with
    | nil=>rfl
    | cons y z=>simp
  · have hb:(c==48)=false:=beq_eq_false_iff_ne.2 h48;rw[hb];simp[h48]
set_option maxRecDepth 100000 in
theorem rnumber (s:ByteArray) (k:Nat) (hk:k<s.size) (hs:s.size≤2000000) (hd:dgB s[k]=true) (w:World) :
    Calls Tryz.prog 152 #[.string s,.int .i64 (k:Int)] w (GotE w k (jcd 3 (jho (s.data.toList.drop k))) (3,jho (s.data.toList.drop k),(jho (s.data.toList.drop k)).length)):=by
  obtain ⟨W0,hW0,hF0,hFr0,hb0,hsz0⟩:=jfn w;obtain ⟨t,ht⟩:=jx (jho (s.data.toList.drop k));have hdc:=jcp hk;have hnf:=num_fault (x:=s.data.toList.drop (k+1)) hd;rw[←hdc] at hnf
  have hle:t.length≤s.size - k:=by
    have:=jgi (p:=dgB) (s.data.toList.drop k);rw[List.length_drop,size_list] at this;rw[←ht];exact this
  have hpos:1≤t.length:=by
    have h1:=int_at hk hd;rw[ht] at h1;omega
  have htk:(s.data.toList.drop k).take t.length=t:=by
    rw[←ht];exact jks _
  rw[ht] at hnf ⊢;obtain ⟨q,hq⟩:=jx (jcd 3 t);rw[hq] at hnf ⊢;obtain ⟨E,hE⟩:=jx (k+t.length);(have hext:s.extract k E=bs t:=by rw[←hE,ext_bs,htk]);have HE:=jj hE;have Hnf:=jj hnf;have Hext:=jj hext;have Hst:=jj (show k+(jho (s.data.toList.drop k)).length=E by rw[ht];exact hE);(have hEs:E≤s.size:=by omega);have HW0:=jj hW0;have HF0:=jj hF0;have HR0:=jj hFr0;have HB0:=jj hb0;have HS0:=jj hsz0;have q48:(((s[k]).toNat:Int)==48)=decide (s[k]=48):=je9 (n:=48) (by decide);clear ht hdc hnf htk hq hE hext hW0 hF0 hFr0 hb0 hsz0;(have hki:(k:Int)<(s.size:Int):=by omega);go_enter Tryz.func152,Tryz.ntmps152;go_wp2_with fail;rw[HW0.out];clear HW0
  go_loopw [6] (fun y wr=>∃j:Nat,k≤j∧j≤s.size∧y=.int .i64 (j:Int)∧j+(jho (s.data.toList.drop j)).length=E∧wr=W0) (fun y _=>s.size - (intOf y).toNat)
  case atStart=>exact ⟨k,Nat.le_refl _,by omega,rfl,Hst.out,rfl⟩
  case round =>
    clear Hst;obtain ⟨j,hkj,hj,rfl,hjE,rfl⟩:=hrel;by_cases hlt:j<s.size
    · (have hji:(j:Int)<(s.size:Int):=by omega);have HD:=jj (fun W=>jmv s[j] W)
      cases hdj:dgB s[j] with
      | true =>
        have Hn:=jj (show j+1+(jho (s.data.toList.drop (j+1))).length=E by have:=int_at hlt hdj;omega);rw[hdj] at HD;clear hjE hdj;go_wp2_with fail;(with_reducible refine (HD.out _).mono ?_);rintro e w3 ⟨rfl,rfl⟩;go_wp2;go_roundw
        case rel=>exact ⟨j+1,by omega,by omega,by go_num,Hn.out,trivial⟩
        case measure=>simp[intOf];omega
      | false =>
        (have hjE2:j=E:=by have:=int_stop hlt hdj;omega);rw[hdj] at HD;clear hdj;subst hjE2;have HT:=jj (jet wr (.int .i64 3) (.string (s.extract k j)) (.int .i64 (k:Int)) (.int .i64 (j:Int)) 66);have hbx:=jak (Below.refl wr.heap.size wr) (.cells #[.int .i64 3,.string (s.extract k j),.int .i64 (k:Int),.int .i64 (j:Int)] 66);have HF1:=jj (HF0.out.keep hbx);have HR1:=jj (HR0.out.at_ hbx HF0.out.1);have HB1:=jj (HB0.out.trans (hbx.mono HB0.out.size));obtain ⟨⟨-,f0,f1,f2,f3⟩,g0,g1,g2,g3⟩:=And.intro HF1.out HR1.out;clear hjE hbx;by_cases hA:s[k]=48∧1<t.length
        · have Hq:=jj (show q=11 by rw[Hnf.out,if_pos hA]);rw[decide_eq_true hA.1] at q48;(have hI:(k:Int)+1<(j:Int):=by have:=HE.out;omega);have hI2:(j:Int) > (k:Int)+1:=hI;have hI3:decide ((k:Int)+1<(j:Int))=true:=decide_eq_true hI;clear hA;go_wp2_with fail;(with_reducible refine (HD.out _).mono ?_);rintro e w3 ⟨rfl,rfl⟩;go_wp2;refine bodyPost_ret (jbq rfl _ _ w.heap.size _ _ _ _ _ rfl rfl (jau HF1.out _ _ _ _)) rfl ⟨_,_,_,_,by rw[Hq.out];rfl,fun h=>?_,jal HB1.out (Nat.le_refl _)⟩;rw[Hq.out] at h;exact absurd h (by decide)
        · by_cases hB:9<t.length
          · have Hq:=jj (show q=4 by rw[Hnf.out,if_neg hA,if_pos hB]);(have hJ:(k:Int)+9<(j:Int):=by have:=HE.out;omega);have hJ2:(j:Int) > (k:Int)+9:=hJ;by_cases h48:s[k]=48
            · exact absurd ⟨h48,by omega⟩ hA
            · rw[decide_eq_false h48] at q48;clear hA hB h48;go_wp2_with fail;(with_reducible refine (HD.out _).mono ?_);rintro e w3 ⟨rfl,rfl⟩;go_wp2;refine bodyPost_ret (jbq rfl _ _ w.heap.size _ _ _ _ _ rfl rfl (jau HF1.out _ _ _ _)) rfl ⟨_,_,_,_,by rw[Hq.out];rfl,fun h=>?_,jal HB1.out (Nat.le_refl _)⟩;rw[Hq.out] at h;exact absurd h (by decide)
          · have Hq:=jj (show q=0 by rw[Hnf.out,if_neg hA,if_neg hB]);(have hJ:¬(k:Int)+9<(j:Int):=by have:=HE.out;omega);have hJ2:¬(j:Int) > (k:Int)+9:=hJ;by_cases h48:s[k]=48
            · have hI:¬(k:Int)+1<(j:Int):=fun h=>hA ⟨h48,by have:=HE.out;omega⟩;have hI2:¬(j:Int) > (k:Int)+1:=hI;rw[decide_eq_true h48] at q48;clear hA hB h48;go_wp2_with fail;(with_reducible refine (HD.out _).mono ?_);rintro e w3 ⟨rfl,rfl⟩;go_wp2;refine bodyPost_ret (jbq rfl _ _ w.heap.size _ _ _ _ _ rfl rfl (jau HF1.out _ _ _ _)) rfl ⟨_,_,_,_,by rw[Hq.out];rfl,fun h=>?_,jal HB1.out (Nat.le_refl _)⟩;exact ⟨rfl,Hext.out,rfl,by rw[HE.out]⟩
            · rw[decide_eq_false h48] at q48;clear hA hB h48;go_wp2_with fail;(with_reducible refine (HD.out _).mono ?_);rintro e w3 ⟨rfl,rfl⟩;go_wp2;refine bodyPost_ret (jbq rfl _ _ w.heap.size _ _ _ _ _ rfl rfl (jau HF1.out _ _ _ _)) rfl ⟨_,_,_,_,by rw[Hq.out];rfl,fun h=>?_,jal HB1.out (Nat.le_refl _)⟩;exact ⟨rfl,Hext.out,rfl,by rw[HE.out]⟩
    · (have hji:¬(j:Int)<(s.size:Int):=by omega);(have hjE2:j=E:=by have:=int_end hlt;omega);subst hjE2;have HT:=jj (jet wr (.int .i64 3) (.string (s.extract k j)) (.int .i64 (k:Int)) (.int .i64 (j:Int)) 66);have hbx:=jak (Below.refl wr.heap.size wr) (.cells #[.int .i64 3,.string (s.extract k j),.int .i64 (k:Int),.int .i64 (j:Int)] 66);have HF1:=jj (HF0.out.keep hbx);have HR1:=jj (HR0.out.at_ hbx HF0.out.1);have HB1:=jj (HB0.out.trans (hbx.mono HB0.out.size));obtain ⟨⟨-,f0,f1,f2,f3⟩,g0,g1,g2,g3⟩:=And.intro HF1.out HR1.out;clear hjE hbx;by_cases hA:s[k]=48∧1<t.length
      · have Hq:=jj (show q=11 by rw[Hnf.out,if_pos hA]);rw[decide_eq_true hA.1] at q48;(have hI:(k:Int)+1<(j:Int):=by have:=HE.out;omega);have hI2:(j:Int) > (k:Int)+1:=hI;have hI3:decide ((k:Int)+1<(j:Int))=true:=decide_eq_true hI;clear hA;go_wp2;refine bodyPost_ret (jbq rfl _ _ w.heap.size _ _ _ _ _ rfl rfl (jau HF1.out _ _ _ _)) rfl ⟨_,_,_,_,by rw[Hq.out];rfl,fun h=>?_,jal HB1.out (Nat.le_refl _)⟩;rw[Hq.out] at h;exact absurd h (by decide)
      · by_cases hB:9<t.length
        · have Hq:=jj (show q=4 by rw[Hnf.out,if_neg hA,if_pos hB]);(have hJ:(k:Int)+9<(j:Int):=by have:=HE.out;omega);have hJ2:(j:Int) > (k:Int)+9:=hJ;by_cases h48:s[k]=48
          · exact absurd ⟨h48,by omega⟩ hA
          · rw[decide_eq_false h48] at q48;clear hA hB h48;go_wp2;refine bodyPost_ret (jbq rfl _ _ w.heap.size _ _ _ _ _ rfl rfl (jau HF1.out _ _ _ _)) rfl ⟨_,_,_,_,by rw[Hq.out];rfl,fun h=>?_,jal HB1.out (Nat.le_refl _)⟩;rw[Hq.out] at h;exact absurd h (by decide)
        · have Hq:=jj (show q=0 by rw[Hnf.out,if_neg hA,if_neg hB]);(have hJ:¬(k:Int)+9<(j:Int):=by have:=HE.out;omega);have hJ2:¬(j:Int) > (k:Int)+9:=hJ;by_cases h48:s[k]=48
          · have hI:¬(k:Int)+1<(j:Int):=fun h=>hA ⟨h48,by have:=HE.out;omega⟩;have hI2:¬(j:Int) > (k:Int)+1:=hI;rw[decide_eq_true h48] at q48;clear hA hB h48;go_wp2;refine bodyPost_ret (jbq rfl _ _ w.heap.size _ _ _ _ _ rfl rfl (jau HF1.out _ _ _ _)) rfl ⟨_,_,_,_,by rw[Hq.out];rfl,fun h=>?_,jal HB1.out (Nat.le_refl _)⟩;exact ⟨rfl,Hext.out,rfl,by rw[HE.out]⟩
          · rw[decide_eq_false h48] at q48;clear hA hB h48;go_wp2;refine bodyPost_ret (jbq rfl _ _ w.heap.size _ _ _ _ _ rfl rfl (jau HF1.out _ _ _ _)) rfl ⟨_,_,_,_,by rw[Hq.out];rfl,fun h=>?_,jal HB1.out (Nat.le_refl _)⟩;exact ⟨rfl,Hext.out,rfl,by rw[HE.out]⟩
end
end Go.Proofs.YtonoklmobocikaaGreatDoor
