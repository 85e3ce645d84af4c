/- Lemmas. -/
import Derived.Test.YtonoklmobocikaaGreatDoorK04
import Derived.Test.YtonoklmobocikaaGreatDoorK05
set_option linter.unusedVariables false
set_option linter.unusedSimpArgs false
set_option maxRecDepth 20000
set_option maxHeartbeats 6400000
namespace Go.Proofs.YtonoklmobocikaaGreatDoor
section
open Go.RowKit
theorem pfault (k a e:Int) (s:ByteArray) (hs:s.size≤2000000) (b:Nat) (w:World) (hkw:KwD w b) (q:Int) (hq:jcd k s.data.toList=q) :
    Calls Tryz.prog 102 #[.agg #[.int .i64 k,.string s,.int .i64 a,.int .i64 e],.map (some b)] w fun en w'=>en=.returned (.int .i64 q)∧Below w.heap.size w w':=by
  have HB:=jj (jak (Below.refl w.heap.size w) (.cells #[.int .i64 k,.string s,.int .i64 a,.int .i64 e] 66));have hkw1:=hkw.below (jak (Below.refl w.heap.size w) (.cells #[.int .i64 k,.string s,.int .i64 a,.int .i64 e] 66));have hF:=jet w (.int .i64 k) (.string s) (.int .i64 a) (.int .i64 e) 66;obtain ⟨f,hf⟩:=jx (jgq k s.data.toList);have HC:=jj (pformed k a e s hs b _ hkw1 f hf);have HF:=jj hF;have Hq:=jj hq;have Hf:=jj hf;have HL:=jj (fun W=>plongest k W);obtain ⟨L,hL⟩:=jx (jl0 k);(have hL60:L≤60:=by rw[←hL];unfold jl0;split<;>(try split)<;>omega);rw[hL] at HL;have HLL:=jj hL;clear hkw hkw1 hF hf hq hL
  cases f with
  | false =>
    have Hy:=jj (show (11:Int)=q by rw[←Hq.out];unfold jcd;rw[if_pos Hf.out]);go_enter Tryz.func102,Tryz.ntmps102;go_wp2_with fail;(with_reducible refine HC.out.mono ?_);rintro en w2 ⟨rfl,hb2⟩;have HB2:=jj (bgo HB.out hb2);clear hb2;go_wp2;go_ret;exact ⟨jck Hy.out,HB2.out⟩
  | true =>
    have Hy:=jj (show (if L<s.size then (4:Int) else 0)=q by
      rw[←Hq.out];unfold jcd;rw[Hf.out,if_neg (show ¬true=false by decide),HLL.out,size_list])
    go_enter Tryz.func102,Tryz.ntmps102;go_wp2_with fail;(with_reducible refine HC.out.mono ?_);rintro en w2 ⟨rfl,hb2⟩;obtain ⟨h0,c0,c1,c2,c3⟩:=HF.out.keep hb2;have HB2:=jj (bgo HB.out hb2);clear hb2 h0 c2 c3;by_cases hlt:L<s.size
    · have Hz:=jj (show (4:Int)=q by rw[←Hy.out,if_pos hlt]);have hd:decide ((s.size:Int) > (L:Int))=true:=decide_eq_true (by omega);have hd':decide ((L:Int)<(s.size:Int))=true:=decide_eq_true (by omega);go_wp2;go_quiet ((go_at_call 158;exact jkk (HL.out _)));go_wp2;go_ret;exact ⟨jck Hz.out,bdr HB2.out _⟩
    · have Hz:=jj (show (0:Int)=q by rw[←Hy.out,if_neg hlt]);have hd:decide ((s.size:Int) > (L:Int))=false:=decide_eq_false (by omega);have hd':decide ((L:Int)<(s.size:Int))=false:=decide_eq_false (by omega);go_wp2;go_quiet ((go_at_call 158;exact jkk (HL.out _)));go_wp2;go_ret;exact ⟨jck Hz.out,bdr HB2.out _⟩
theorem encode_low (c:UInt8) (h:c.toNat<128):Utf8.encode (c.toNat:Int)=bs [c]:=by
  (have hv:Utf8.valid (c.toNat:Int)=true:=by unfold Utf8.valid;simp;omega);unfold Utf8.encode;simp only[hv,if_true,Int.toNat_natCast,if_pos h];simp[bs]
theorem con_low {c:UInt8} (h:jkq c=true):c.toNat<128:=by
  unfold jkq visB at h;simp only[Bool.or_eq_true,Bool.and_eq_true,decide_eq_true_eq,beq_iff_eq] at h;rcases h with h | h
  · subst h;decide
  · omega
theorem pwritten (c:UInt8) (hc:jkq c=true) (w:World):Calls Tryz.prog 213 #[.int .u8 (c.toNat:Int)] w fun e w'=>e=.returned (.string (bs (jee c)))∧w=w':=by
  have h34:((c.toNat:Int)==34)=decide (c=34):=je9 (n:=34) (by decide);have h92:((c.toNat:Int)==92)=decide (c=92):=je9 (n:=92) (by decide);have h10:((c.toNat:Int)==10)=decide (c=10):=je9 (n:=10) (by decide);have Hc:=encode_low c (con_low hc);clear hc;by_cases e34:c=34
  · rw[decide_eq_true e34] at h34;have Hn:=jj (show bs [92,34]=bs (jee c) by rw[e34];rfl);clear h92 h10 Hc e34;go_enter Tryz.func213,Tryz.ntmps213;go_wp2;go_ret;exact ⟨jg6 (by rw[←Hn.out];rfl),rfl⟩
  · rw[decide_eq_false e34] at h34;by_cases e92:c=92
    · rw[decide_eq_true e92] at h92;have Hn:=jj (show bs [92,92]=bs (jee c) by rw[e92];rfl);clear h10 Hc e34 e92;go_enter Tryz.func213,Tryz.ntmps213;go_wp2;go_ret;exact ⟨jg6 (by rw[←Hn.out];rfl),rfl⟩
    · rw[decide_eq_false e92] at h92;by_cases e10:c=10
      · rw[decide_eq_true e10] at h10;have Hn:=jj (show bs [92,110]=bs (jee c) by rw[e10];rfl);clear Hc e34 e92 e10;go_enter Tryz.func213,Tryz.ntmps213;go_wp2;go_ret;exact ⟨jg6 (by rw[←Hn.out];rfl),rfl⟩
      · rw[decide_eq_false e10] at h10;have Hn:=jj (show bs [c]=bs (jee c) by unfold jee;rw[if_neg e34,if_neg e92,if_neg e10]);clear e34 e92 e10;go_enter Tryz.func213,Tryz.ntmps213;go_wp2;go_ret;exact ⟨jg6 (by rw[←Hn.out,←Hc]),rfl⟩
theorem write_len (c:UInt8):(jee c).length≤2:=by
  unfold jee;split
  · simp
  · split
    · simp
    · split<;>simp
theorem body_len (t:List UInt8):(jff t).length≤2*t.length:=by
  induction t with
  | nil=>exact Nat.le_refl _
  | cons c t ih =>
    show (jee c++jff t).length≤_;have:=write_len c;rw[List.length_append,List.length_cons];omega
theorem body_app (a b:List UInt8):jff (a++b)=jff a++jff b:=by unfold jff;rw[List.flatMap_append]
theorem bs_strCells (l:List UInt8):Lib.strCells (bs l)=Lib.byteCells l:=by
  unfold Lib.strCells;rw[jac];try rfl
theorem jm0 (l:List UInt8):(Lib.byteCells l).length=l.length:=by simp[Lib.byteCells]
theorem pquoted (s:ByteArray) (hs:s.size≤2000000) (hc:s.data.toList.all jkq=true) (w:World):Calls Tryz.prog 185 #[.string s] w fun e w'=>e=.returned (.string (bs (jhx s.data.toList)))∧Below w.heap.size w w':=by
  obtain ⟨w0,hw0⟩:=jx (w.alloc (.cells #[.pointer none,.slice none 0 0] 119));(have hI:Lib.IsBuilder 119 5 w.heap.size w.heap.size (Lib.byteCells []) w0:=by rw[←hw0];exact Lib.fresh_isBuilder 119 5 w);(have hb0:Below w.heap.size w w0:=by rw[←hw0];exact jak (Below.refl _ w) _);have hsz0:w.heap.size≤w0.heap.size:=hb0.size;have HI:=jj hI;have HB0:=jj hb0;have HW0:=jj hw0;clear hI hb0 hw0
  have hcon:∀k (h:k<s.size),jkq s[k]=true:=by
    intro k h;have hm:s[k]∈s.data.toList:=List.mem_of_mem_drop (by rw[jcp h];exact List.mem_cons_self ..);exact List.all_eq_true.1 hc _ hm
  have HCon:=jj hcon;clear hcon hc;go_enter Tryz.func185,Tryz.ntmps185;go_wp2_with fail;rw[HW0.out];clear HW0;refine (Tryz.Builder_WriteByte _ _ _ 34 _ HI.out (by simp[Lib.byteCells]) hsz0).mono ?_;rintro e w1 ⟨rfl,hI1,hb1⟩;have HI1:=jj (show Lib.IsBuilder 119 5 w.heap.size w.heap.size (Lib.byteCells (34 :: jff (s.data.toList.take 0))) w1 from Or.inr hI1);have HB1:=jj (HB0.out.trans hb1);clear hI1 hb1 HI HB0 hsz0;go_wp2_with fail
  go_loopw [8] (fun y wr=>∃k:Nat,k≤s.size∧y=.int .i64 (k:Int)∧Lib.IsBuilder 119 5 w.heap.size w.heap.size (Lib.byteCells (34 :: jff (s.data.toList.take k))) wr∧Below w.heap.size w wr) (fun y _=>s.size - (intOf y).toNat)
  case atStart=>exact ⟨0,Nat.zero_le _,rfl,HI1.out,HB1.out⟩
  case round =>
    obtain ⟨k,hk,rfl,hI2,hb2⟩:=hrel;obtain ⟨w2,hw2⟩:∃w2,w2=wr:=⟨wr,rfl⟩;subst hw2;have hsz2:=hb2.size;have HI2:=jj hI2;have HB2:=jj hb2
    have hlen:(34 :: jff (s.data.toList.take k)).length≤4000001:=by
      have:=body_len (s.data.toList.take k);rw[List.length_take,size_list] at this;simp only[List.length_cons];omega
    have Hlen:=jj (show (Lib.byteCells (34 :: jff (s.data.toList.take k))).length≤4000001 by rw[jm0];exact hlen);by_cases hlt:k<s.size
    · have HC:=jj (pwritten s[k] (HCon.out k hlt) w2)
      have hstep:34 :: jff (s.data.toList.take (k+1))=34 :: jff (s.data.toList.take k)++jee s[k]:=by
        rw[List.take_succ_eq_append_getElem (by simpa using hlt),body_app,←List.cons_append];congr 1;show jff [s.data.toList[k]]=_;show jee (s.data.toList[k])++[]=_;rw[List.append_nil];try rfl
      obtain ⟨t,ht⟩:=jx (jee s[k]);(have htl:t.length≤2:=by rw[←ht];exact write_len _);rw[ht] at HC hstep;have Hstep:=jj hstep;have Htl:=jj htl;clear hI2 hb2 hlen hstep ht htl;go_wp2_with fail;(with_reducible refine HC.out.mono ?_);rintro e w3 ⟨rfl,rfl⟩;go_wp2_with fail;refine (Tryz.Builder_WriteString _ _ _ (bs t) _ HI2.out (by have:=Hlen.out;have:=Htl.out;rw[jbs];omega) hsz2).mono ?_;rintro e w4 ⟨rfl,hI4,hb4⟩
      have HI4:=jj (show Lib.IsBuilder 119 5 w.heap.size w.heap.size (Lib.byteCells (34 :: jff (s.data.toList.take (k+1)))) w4 by
        rw[Hstep.out,Go.Lib.byteCells_append,←bs_strCells t]
        exact Or.inr hI4)
      have HB4:=jj (HB2.out.trans hb4);clear hI4 hb4;go_wp2;go_roundw
      case rel=>exact ⟨k+1,by omega,by go_num,HI4.out,HB4.out⟩
      case measure=>simp[intOf];omega
    · have hk':s.data.toList.take k=s.data.toList:=List.take_of_length_le (by rw[size_list];omega);rw[hk'] at HI2 Hlen;clear hI2 hb2 hlen hk';go_wp2_with fail;refine (Tryz.Builder_WriteByte _ _ _ 34 _ HI2.out (by have:=Hlen.out;omega) hsz2).mono ?_;rintro e w3 ⟨rfl,hI3,hb3⟩;have hsz3:w.heap.size≤w3.heap.size:=by have:=hb3.size;omega
      have HI3:=jj (show Lib.IsBuilder 119 5 w.heap.size w.heap.size (Lib.byteCells (jhx s.data.toList)) w3 by
        unfold jhx;rw[←List.cons_append,Go.Lib.byteCells_append]
        exact Or.inr hI3)
      have HB3:=jj (HB2.out.trans hb3);clear hI3 hb3;go_wp2_with fail;refine (Tryz.Builder_String_any _ _ _ _ HI3.out hsz3).mono ?_;rintro e w4 ⟨rfl,hb4⟩;have HB4:=jj (HB3.out.trans hb4);clear hb4;go_wp2;go_ret;exact ⟨rfl,HB4.out⟩
theorem pprinted (k a e:Int) (s:ByteArray) (hs:s.size≤2000000) (hc:k=4→s.data.toList.all jkq=true) (w:World) :
    Calls Tryz.prog 141 #[.agg #[.int .i64 k,.string s,.int .i64 a,.int .i64 e]] w fun en w'=>en=.returned (.string (bs (jhr k s.data.toList)))∧Below w.heap.size w w':=by
  have HB:=jj (jak (Below.refl w.heap.size w) (.cells #[.int .i64 k,.string s,.int .i64 a,.int .i64 e] 66));by_cases h4:k=4
  · subst h4;have HC:=jj (pquoted s hs (hc rfl) (w.alloc (.cells #[.int .i64 4,.string s,.int .i64 a,.int .i64 e] 66)));clear hc;go_enter Tryz.func141,Tryz.ntmps141;go_wp2_with fail;(with_reducible refine HC.out.mono ?_);rintro en w2 ⟨rfl,hb2⟩;have HB2:=jj (bgo HB.out hb2);clear hb2;go_wp2;go_ret;exact ⟨rfl,HB2.out⟩
  · have e4:(k==4)=false:=beq_eq_false_iff_ne.2 h4;clear hc;by_cases h6:k=6
    · subst h6
      have Hn:=jj (show bs [36]++s=bs (jhr 6 s.data.toList) by
        have:=bs_app [36] s.data.toList;rw[jj9] at this
        rw[this];rfl)
      clear e4 h4;go_enter Tryz.func141,Tryz.ntmps141;go_wp2;go_ret;exact ⟨jg6 (by rw[←Hn.out];rfl),HB.out⟩
    · have e6:(k==6)=false:=beq_eq_false_iff_ne.2 h6;by_cases h7:k=7
      · subst h7
        have Hn:=jj (show bs [36,36]++s=bs (jhr 7 s.data.toList) by
          have:=bs_app [36,36] s.data.toList;rw[jj9] at this
          rw[this];rfl)
        clear e4 h4 e6 h6;go_enter Tryz.func141,Tryz.ntmps141;go_wp2;go_ret;exact ⟨jg6 (by rw[←Hn.out];rfl),HB.out⟩
      · have e7:(k==7)=false:=beq_eq_false_iff_ne.2 h7
        have Hn:=jj (show s=bs (jhr k s.data.toList) by
          unfold jhr
          rw[if_neg h4,if_neg h6,if_neg h7,jj9])
        clear h4 h6 h7;go_enter Tryz.func141,Tryz.ntmps141;go_wp2;go_ret;exact ⟨jg6 Hn.out,HB.out⟩
end
section
open Go.RowKit
theorem join_is:∀ts:List (List UInt8),Lib.join ts [32]=jn2 ts
  | []=>rfl
  | [x]=>Lib.join_one x [32]
  | x :: y :: l=>by
    have ih:=join_is (y :: l)
    unfold Lib.join at ih ⊢
    show _=x++32 :: jn2 (y :: l)
    rw[←ih]
    simp[List.intercalate,List.intersperse]
theorem tokP_len (k:Int) (t:List UInt8):(jhr k t).length≤2*t.length+2:=by
  unfold jhr;have:=body_len t;split
  · unfold jhx;simp only[List.length_cons,List.length_append,List.length_nil];omega
  · split
    · simp only[List.length_cons];omega
    · split
      · simp only[List.length_cons];omega
      · omega
theorem jif {l:List Tk} {k:Nat} {t:Tk} (h:l[k]?=some t):l.take (k+1)=l.take k++[t]:=by
  obtain ⟨hlt,e⟩:=List.getElem?_eq_some_iff.1 h;rw[List.take_succ_eq_append_getElem hlt,e]
def jhy (l:List Tk):List (List UInt8):=l.map fun t=>jhr t.kind t.text
theorem jme {l:List Tk} {t:Tk} (h:jad l=true) (ht:jb8 t.kind t.text=true):jad (l++[t])=true:=by
  unfold jad at h ⊢;rw[List.all_append,h];simp[ht]
theorem not_right {l:List Tk} {k:Nat} {t:Tk} (h:l[k]?=some t) (ht:¬jcd t.kind t.text=0):jad l=false:=by
  cases hc:jad l with
  | false=>rfl
  | true =>
    exact absurd (jgr (List.all_eq_true.1 hc t (List.mem_of_getElem? h))) ht
theorem map_bs:∀ts:List (List UInt8),(ts.map bs).map (·.data.toList)=ts:=by
  intro ts;rw[List.map_map]
  conv=>rhs;rw[←List.map_id ts]
  exact List.map_congr_left fun x _=>jac x
theorem infoS9:(Tryz.prog.info? 9).map (fun i=>(i.zero,i.size,i.bytes))=some (some (.string ⟨#[]⟩),1,16):=by kernel_rfl
theorem ret_si {a b:ByteArray} {x y:Int} (h:a=b) (h':x=y):Ending.returned (.tuple #[.string a,.int .i64 x])=.returned (.tuple #[.string b,.int .i64 y]):=by rw[h,h']
end
section
open Go.RowKit
def aftS:List UInt8→List UInt8
  | []=>[]
  | c :: r=>if c=10 then r else aftS r
theorem skB_true (r:List UInt8):skB true r=skS (aftS r):=by
  induction r with
  | nil=>rfl
  | cons c r ih =>
    simp only[skB,aftS];split
    · rfl
    · exact ih
theorem aft_len (r:List UInt8):(aftS r).length≤r.length:=by
  induction r with
  | nil=>exact Nat.le_refl _
  | cons c r ih =>
    simp only[aftS];split
    · simp
    · simp only[List.length_cons];omega
theorem sk_blank (r:List UInt8):skS r=skS (r.dropWhile blB):=by
  induction r with
  | nil=>rfl
  | cons c r ih =>
    simp only[List.dropWhile]
    cases hb:blB c with
    | true =>
      simp only;rw[←ih,skS,skB.eq_2,if_pos hb]
    | false=>rfl
theorem drop_head (r:List UInt8):∀c x,r.dropWhile blB=c :: x→blB c=false:=by
  induction r with
  | nil=>intro c x h;cases h
  | cons a r ih =>
    intro c x h;simp only[List.dropWhile] at h
    cases hb:blB a with
    | true=>rw[hb] at h;exact ih c x h
    | false =>
      rw[hb] at h;injection h with h _;subst h;exact hb
def slB (r:List UInt8):Bool:=Lib.hasPrefix r [47,47]
theorem slB_yes {r:List UInt8} (h:slB r=true):∃x,r=47 :: 47 :: x:=by
  unfold slB Lib.hasPrefix at h
  match r with
  | []=>cases h
  | [a] =>
    simp only[List.isPrefixOf,Bool.and_false] at h;cases h
  | a :: b :: x =>
    simp only[List.isPrefixOf,Bool.and_true,Bool.and_eq_true,beq_iff_eq] at h;exact ⟨x,by rw[←h.1,←h.2]⟩
theorem slB_no {r:List UInt8} (h:slB r=false):¬∃x,r=47 :: 47 :: x:=by
  rintro ⟨x,rfl⟩;cases h
theorem sk_round (r:List UInt8):skS r=if slB (r.dropWhile blB)=true then skS (aftS (r.dropWhile blB)) else r.dropWhile blB:=by
  rw[sk_blank];have hd:=drop_head r;obtain ⟨t,ht⟩:=jx (r.dropWhile blB);rw[ht] at hd ⊢;by_cases h:slB t=true
  · rw[if_pos h];obtain ⟨x,rfl⟩:=slB_yes h;(have:blB 47=false:=by decide);rw[skS,skB.eq_2,if_neg (by rw[this];decide),if_pos ⟨rfl,rfl⟩,skB_true];try rfl
  · rw[if_neg h];have hno:=slB_no (by simpa using h)
    exact Bare.sk fun c x e=>⟨hd c x e,fun ⟨h1,h2⟩=>hno (by
      cases x with
      | nil=>cases h2
      | cons b x =>
        injection h2 with h2
        exact ⟨x,by rw[e,h1,h2]⟩)⟩
theorem trim_is (r:List UInt8):Lib.trimLeftS r [32,9,10]=r.dropWhile blB:=by
  unfold Lib.trimLeftS;congr 1;funext c;show [32,9,10].contains c=blB c;unfold blB;rw[Bool.eq_iff_iff,List.contains_iff_mem];simp[or_assoc]
theorem idx_aft:∀l:List UInt8,(∃n:Nat,Lib.indexByte l 10=(n:Int)∧n<l.length∧l.drop (n+1)=aftS l)∨(Lib.indexByte l 10<0∧aftS l=[])
  | []=>Or.inr ⟨by decide,rfl⟩
  | x :: l=>by
    unfold Lib.indexByte aftS
    by_cases hx:x=10
    · rw[if_pos hx,if_pos (beq_iff_eq.2 hx)]
      exact Or.inl ⟨0,rfl,by simp,rfl⟩
    · rw[if_neg hx,if_neg (by simp[hx])]
      rcases idx_aft l with ⟨n,h1,h2,h3⟩ | ⟨h1,h2⟩
      · refine Or.inl ⟨n+1,?_,by simpa using h2,h3⟩
        rw[h1,if_neg (by simp)]
        rfl
      · refine Or.inr ⟨?_,h2⟩
        have:=Lib.indexByte_ge l 10
        have hz:Lib.indexByte l 10=-1:=by omega
        rw[hz]
        decide
def CutG (w:World) (l:List UInt8) (e:Ending) (w':World):Prop:=∃(a r:ByteArray) (b:Bool),e=.returned (.tuple #[.string a,.string r,.bool b])∧r=bs (aftS l)∧Below w.heap.size w w'
theorem scut (s:ByteArray) (hl:s.size≤2000000) (w:World):Calls Tryz.prog 196 #[.string s,.string ⟨#[10]⟩] w (CutG w s.data.toList):=by
  have HI:=jj (Tryz.stringslite_Index_one s 10 w);rcases idx_aft s.data.toList with ⟨n,h1,hlt,h3⟩ | ⟨hi,h2⟩
  · rw[h1] at HI;rw[size_list] at hlt;have Hn:=jj h3;(have g1:(n:Int)≤(s.size:Int):=by omega);(have g2:(n:Int)+1≤(s.size:Int):=by omega);(have g3:(s.size:Int)≤2000000:=by omega);clear h1 h3;go_enter Tryz.func196,Tryz.ntmps196;go_wp2_with fail;(with_reducible refine HI.out.mono ?_);rintro e w1 ⟨rfl,rfl⟩;go_wp2;go_quiet (fail);go_wp2
    go_ret3
    refine ⟨_,_,_,rfl,?_,Drawn.below ⟨nq,rfl⟩ _⟩;rw[←Hn.out,←jeu]
  · obtain ⟨z,hz⟩:=jx (Lib.indexByte s.data.toList 10);rw[hz] at HI hi;(have hz':¬0≤z:=by omega);have Hn:=jj h2;clear h2 hz;go_enter Tryz.func196,Tryz.ntmps196;go_wp2_with fail;(with_reducible refine HI.out.mono ?_);rintro e w1 ⟨rfl,rfl⟩;go_wp2
    go_ret3
    exact ⟨_,_,_,rfl,by rw[Hn.out];rfl,Below.refl _ _⟩
theorem pcut (s:ByteArray) (hl:s.size≤2000000) (w:World):Calls Tryz.prog 156 #[.string s,.string ⟨#[10]⟩] w (CutG w s.data.toList):=by
  have HI:=jj (scut s hl w);go_enter Tryz.func156,Tryz.ntmps156;go_wp2_with fail;(with_reducible refine HI.out.mono ?_);rintro e w1 ⟨a,r,b,rfl,h⟩;have H:=jj h;clear h;go_wp2
  go_ret3
  exact ⟨a,r,b,rfl,H.out⟩
def lenOf:Value→Nat
  | .string s=>s.size
  | _=>0
theorem ascii3:∀(j:Nat) (b:UInt8),(⟨#[32,9,10]⟩:ByteArray).data.toList[j]?=some b→b.toNat<128:=by
  intro j b h;have:b∈[32,9,10]:=List.mem_of_getElem? h;simp at this;rcases this with rfl | rfl | rfl<;>decide
theorem dw_len (p:UInt8→Bool) (r:List UInt8):(r.dropWhile p).length≤r.length:=by
  induction r with
  | nil=>exact Nat.le_refl _
  | cons c r ih =>
    simp only[List.dropWhile];split
    · simp only[List.length_cons];omega
    · exact Nat.le_refl _
theorem jng (s:ByteArray) (hs:s.size≤2000000) (w:World):Calls Tryz.prog 101 #[.string s] w fun e w'=>e=.returned (.string (bs (skS s.data.toList)))∧Below w.heap.size w w':=by
  obtain ⟨P,hP⟩:=jx (skS s.data.toList);rw[hP];have HP:=jj hP;clear hP;go_enter Tryz.func101,Tryz.ntmps101;go_wp2_with fail
  go_loopw [0] (fun x wr=>∃s1:ByteArray,x=.string s1∧s1.size≤2000000∧skS s1.data.toList=P∧Below w.heap.size w wr) (fun x _=>lenOf x)
  case atStart=>exact ⟨s,rfl,hs,HP.out,Below.refl _ _⟩
  case round =>
    clear HP hs;obtain ⟨s1,rfl,hs1,hsk,hb⟩:=hrel;obtain ⟨w1,hw1⟩:∃w1,w1=wr:=⟨wr,rfl⟩;subst hw1;have HT:=Tryz.strings_TrimLeft_laid s1 ⟨#[32,9,10]⟩ w1 (by decide) ascii3;rw[show (⟨#[32,9,10]⟩:ByteArray).data.toList=[32,9,10] from rfl,trim_is] at HT;rw[sk_round] at hsk;have hdl:=dw_len blB s1.data.toList;rw[size_list] at hdl;obtain ⟨t,ht⟩:=jx (s1.data.toList.dropWhile blB);rw[ht] at HT hsk hdl;obtain ⟨T,hT⟩:=jx ((⟨t.toArray⟩:ByteArray));rw[hT] at HT;(have hTl:T.data.toList=t:=by rw[←hT]);(have hTs:T.size=t.length:=by rw[←size_list,hTl]);have HH:=fun W=>Tryz.strings_HasPrefix T ⟨#[47,47]⟩ W;rw[hTl,show (⟨#[47,47]⟩:ByteArray).data.toList=[47,47] from rfl] at HH;obtain ⟨q,hq⟩:=jx (Lib.hasPrefix t [47,47]);rw[hq] at HH;rw[show slB t=q from hq] at hsk;have HB:=jj hb;have HT':=jj HT;have HH':=jj HH;have HTl:=jj hTl;have HTs:=jj hTs;have Hdl:=jj hdl;have Hq:=jj hq;clear hb HT HH hTl hTs hT ht hdl hq
    cases q with
    | true =>
      rw[if_pos rfl] at hsk;have hal:=aft_len t
      have hlt:(aftS t).length<s1.size:=by
        obtain ⟨x,rfl⟩:=slB_yes (show slB t=true from Hq.out);have h1:=Hdl.out;have h2:aftS (47 :: 47 :: x)=aftS x:=rfl;have h3:=aft_len x;rw[h2];simp only[List.length_cons] at h1;omega
      have Hsk:=jj hsk;have HC:=jj (pcut T (by have:=HTs.out;have:=Hdl.out;omega));rw[HTl.out] at HC;obtain ⟨n,hn⟩:=jx ((aftS t).length);rw[hn] at hlt;have Hn:=jj hn;clear hsk hal hn;go_wp2_with fail;(with_reducible refine HT'.out.mono ?_);rintro e w2 ⟨rfl,hb2⟩;have HB2:=jj (HB.out.trans (hb2.mono HB.out.size));clear hb2;go_wp2_with fail;(with_reducible refine (HH'.out _).mono ?_);rintro e w3 ⟨rfl,rfl⟩;go_wp2_with fail;(with_reducible refine (HC.out _).mono ?_);rintro e w4 ⟨a,r,b,rfl,hr,hb4⟩;have Hr:=jj (show r.data.toList=aftS t by rw[hr,jac]);have Hrs:=jj (show r.size=n by rw[hr,jbs,Hn.out]);have HB4:=jj (HB2.out.trans (hb4.mono HB2.out.size));clear hr hb4;go_wp2;go_roundw
      case rel=>exact ⟨r,rfl,by rw[Hrs.out];omega,by rw[Hr.out];exact Hsk.out,HB4.out⟩
      case measure=>simp only[lenOf];rw[Hrs.out];exact hlt
    | false =>
      rw[if_neg (by decide)] at hsk;have Hy:=jj (show T=bs P by rw[←hsk,←HTl.out,jj9]);clear hsk;go_wp2_with fail;(with_reducible refine HT'.out.mono ?_);rintro e w2 ⟨rfl,hb2⟩;have HB2:=jj (HB.out.trans (hb2.mono HB.out.size));clear hb2;go_wp2_with fail;(with_reducible refine (HH'.out _).mono ?_);rintro e w3 ⟨rfl,rfl⟩;go_wp2;go_ret;exact ⟨jg6 Hy.out,HB2.out⟩
end
section
open Go.RowKit
structure ShS (p:Nat) (W:World) (u:Value) (l:List Tk):Prop where
  cell:W.cell? ⟨p,0,none⟩=some u
  free:W.frozen? ⟨p,0,none⟩=false
  own:OwnT W (p+1) u l
structure ShF (p:Nat) (W W':World) (u u':Value):Prop where
  below:Below p W W'
  far:∀g,g<W.heap.size→g≠p→u.ownBlock≠some g→W'.heap[g]?=W.heap[g]?∧u'.ownBlock≠some g
theorem ShS.lt {p:Nat} {W:World} {u:Value} {l:List Tk} (h:ShS p W u l):p<W.heap.size:=World.block_lt_of_cell? _ _ h.cell
theorem ShS.go {p:Nat} {W W':World} {u:Value} {l:List Tk} (h:ShS p W u l) (hb:Below W.heap.size W W'):ShS p W' u l :=
  ⟨(hb.cell (p:=⟨p,0,none⟩) h.lt).trans h.cell,(hb.frozen (p:=⟨p,0,none⟩) h.lt).trans h.free,h.own.below hb⟩
theorem ShF.refl (p:Nat) (W:World) (u:Value):ShF p W W u u:=⟨Below.refl _ _,fun _ _ _ h=>⟨rfl,h⟩⟩
theorem ShF.of {p:Nat} {W W':World} (hp:p≤W.heap.size) (hb:Below W.heap.size W W') (u:Value):ShF p W W' u u:=⟨hb.mono hp,fun g hg _ hu=>⟨hb.block g hg,hu⟩⟩
theorem ShF.trans {p:Nat} {a b c:World} {u v x:Value} (h:ShF p a b u v) (k:ShF p b c v x):ShF p a c u x :=
  ⟨h.below.trans k.below,fun g hg hp hu=>by
    obtain ⟨h1,h2⟩:=h.far g hg hp hu
    obtain ⟨k1,k2⟩:=k.far g (Nat.lt_of_lt_of_le hg h.below.size) hp h2
    exact ⟨k1.trans h1,k2⟩⟩
theorem ShS.notown {p:Nat} {W:World} {u:Value} {l:List Tk} (h:ShS p W u l) {b:Nat} (hb:W.heap.size≤b):u.ownBlock≠some b :=
  fun e=>by have:=(World.ownsRow.lt h.own b e).2;omega
theorem FiveN.shf {p:Nat} {W W':World} {u u':Value} {b:Nat} {c0 c1 c2 c3 c4:Value} (h:FiveN W b c0 c1 c2 c3 c4) (hf:ShF p W W' u u') (hp:b≠p) (hu:u.ownBlock≠some b):FiveN W' b c0 c1 c2 c3 c4:=by
  obtain ⟨h0,h1,h2,h3,h4,h5⟩:=h;have key:∀k:Nat,W'.cell? ⟨b,k,none⟩=W.cell? ⟨b,k,none⟩:=fun k=>World.cell?_of_block (w:=W) (a:=⟨b,k,none⟩) (hf.far b h0 hp hu).1;exact ⟨Nat.lt_of_lt_of_le h0 hf.below.size,(key _).trans h1,(key _).trans h2,(key _).trans h3,(key _).trans h4,(key _).trans h5⟩
def ExG (p:Nat) (W:World) (u:Value) (l:List Tk) (r:Option (List Tk)) (e:Ending) (w':World):Prop :=
  ∃u' l',ShS p w' u' l'∧ShF p W w' u u'∧(match r with | none=>e=.returned (.bool false) | some ts=>e=.returned (.bool true)∧l'=l++ts)
def ExV (p:Nat) (W:World) (u:Value) (l:List Tk) (ts:List Tk) (e:Ending) (w':World):Prop :=
  ∃u',e=.returned (.tuple #[])∧ShS p w' u' (l++ts)∧ShF p W w' u u'
theorem set_own {w w':World} {B e:Nat} {sz n:Nat} {v:Value} {xs:List Value} (h:w.ownsRow B e sz v n xs) (hb:∀g,B≤g→g<w.heap.size→w'.heap[g]?=w.heap[g]?) (hs:w.heap.size≤w'.heap.size):w'.ownsRow B e sz v n xs:=by
  obtain ⟨h1,h2⟩:=h;refine ⟨h1,?_⟩;rcases h2 with h2 | ⟨g,cap,cur,h3,h4,h5,h6⟩
  · exact Or.inl h2
  · exact Or.inr ⟨g,cap,cur,h3,h4,(hb g h4 (lt_of_block h5)).trans h5,h6⟩
theorem sh_put {p:Nat} {W w1:World} {u v':Value} {l l':List Tk} (hS:ShS p W u l) (hb:Below (p+1) W w1) (hf:Far W w1 u v') (ho:OwnT w1 (p+1) v' l') :
    ShS p (w1.setCell ⟨p,0,none⟩ v') v' l'∧ShF p W (w1.setCell ⟨p,0,none⟩ v') u v':=by
  have hfr:w1.frozen? ⟨p,0,none⟩=false:=(hb.frozen (p:=⟨p,0,none⟩) (Nat.lt_succ_self p)).trans hS.free;have hcl:w1.cell? ⟨p,0,none⟩=some u:=(hb.cell (p:=⟨p,0,none⟩) (Nat.lt_succ_self p)).trans hS.cell;have hk:∀g,g≠p→(w1.setCell ⟨p,0,none⟩ v').heap[g]?=w1.heap[g]?:=fun g hg=>Below.heap_setCell w1 ⟨p,0,none⟩ v' g hg;(have hs:(w1.setCell ⟨p,0,none⟩ v').heap.size=w1.heap.size:=by simp[World.setCell]);refine ⟨⟨?_,?_,?_⟩,⟨⟨?_,?_,?_,?_,?_⟩,?_⟩⟩
  · exact World.cell?_setCell_same _ _ _ hcl
  · exact (World.frozen?_setCell ..).trans hfr
  · exact set_own ho (fun g hg _=>hk g (by omega)) (by omega)
  · exact hb.os
  · exact hb.tape
  · exact hb.output
  · rw[hs];exact hb.size
  · exact fun g hg=>(hk g (by omega)).trans (hb.block g (by omega))
  · intro g hg hp hu;obtain ⟨h1,h2⟩:=hf.2 g hg hu;exact ⟨(hk g hp).trans h1,h2⟩
theorem pexpect (k:Int) (s:ByteArray) (x:List UInt8) (hx:s=bs x) {p:Nat} {W:World} {u:Value} {l:List Tk} (hS:ShS p W u l) (hl:l.length≤2000000000) :
    Calls Tryz.prog 181 #[.pointer (some ⟨p,0,none⟩),.int .i64 k,.string s] W (ExV p W u l [tk1 k x]):=by
  subst hx;obtain ⟨i0,hi,hz0,hz1,hz2⟩:=info_parts infoTk;have hp:=hS.lt;have hc:=hS.cell;have HS:=jj hS;have hp1:p+1≤W.heap.size:=hp;clear hS;go_enter Tryz.func181,Tryz.ntmps181;go_wp2_with (at_builtin;refine jid rfl (.tmp 10) (.tmp 14) 39 rfl i0 _ 40 Tryz.underlying39 hi hz0 hz1 hz2 rfl (p+1) u l rfl W (tk1 k x) _ _ _ _ rfl rfl rfl rfl HS.out.own hp1 _ rfl rfl (by omega) (by unfold maxLen;omega) _ ?_);intro v' w1 hown hb hfar;have hfr:w1.frozen? ⟨p,0,none⟩=false:=(hb.frozen (p:=⟨p,0,none⟩) (Nat.lt_succ_self p)).trans HS.out.free;have hcl:w1.cell? ⟨p,0,none⟩=some u:=(hb.cell (p:=⟨p,0,none⟩) (Nat.lt_succ_self p)).trans hc;have hpl:p<w1.heap.size:=World.block_lt_of_cell? _ _ hcl;obtain ⟨A6,n6,c6,rfl,-,-⟩:=hown.s;obtain ⟨h1,h2⟩:=sh_put HS.out hb hfar hown;have H1:=jj h1;have H2:=jj h2;clear h1 h2 hown hb hfar;go_wp2;exact bodyPost_ret (results_none rfl _ _ _) rfl ⟨_,rfl,H1.out,H2.out⟩
theorem tw_idx:∀l:List UInt8,(∃n:Nat,Lib.indexByte l 46=(n:Int)∧n<l.length∧l.takeWhile (· != 46)=l.take n)∨(Lib.indexByte l 46<0∧l.takeWhile (· != 46)=l)
  | []=>Or.inr ⟨by decide,rfl⟩
  | x :: l=>by
    unfold Lib.indexByte
    by_cases hx:x=46
    · subst hx
      exact Or.inl ⟨0,by rw[if_pos (by decide)];rfl,by simp,rfl⟩
    · have ht:(x :: l).takeWhile (· != 46)=x :: l.takeWhile (· != 46):=by rw[List.takeWhile_cons];simp[hx]
      rw[ht,if_neg (by rw[beq_iff_eq];exact hx)]
      rcases tw_idx l with ⟨n,h1,h2,h3⟩ | ⟨h1,h2⟩
      · refine Or.inl ⟨n+1,?_,by simpa using h2,by rw[h3];rfl⟩
        rw[h1,if_neg (by rw[beq_iff_eq];omega)]
        rfl
      · refine Or.inr ⟨?_,by rw[h2]⟩
        have:=Lib.indexByte_ge l 46
        have hz:Lib.indexByte l 46=-1:=by omega
        rw[hz]
        decide
def CutD (w:World) (l:List UInt8) (e:Ending) (w':World):Prop :=
  ((∃n,n<l.length∧l.takeWhile (· != 46)=l.take n∧e=.returned (.tuple #[.string (bs (l.take n)),.string (bs (l.drop (n+1))),.bool true]))∨(l.takeWhile (· != 46)=l∧e=.returned (.tuple #[.string (bs l),.string ⟨#[]⟩,.bool false])))∧Below w.heap.size w w'
theorem scutD (s:ByteArray) (hl:s.size≤9223372036854775807) (w:World):Calls Tryz.prog 196 #[.string s,.string ⟨#[46]⟩] w (CutD w s.data.toList):=by
  have HI:=jj (Tryz.stringslite_Index_one s 46 w);rcases tw_idx s.data.toList with ⟨n,h1,hlt,h3⟩ | ⟨hi,h2⟩
  · rw[h1] at HI;rw[size_list] at hlt;have Hn:=jj h3;(have g1:(n:Int)≤(s.size:Int):=by omega);(have g2:(n:Int)+1≤(s.size:Int):=by omega);(have g3:(s.size:Int)≤9223372036854775807:=by omega);clear h1 h3;go_enter Tryz.func196,Tryz.ntmps196;go_wp2_with fail;(with_reducible refine HI.out.mono ?_);rintro e w1 ⟨rfl,rfl⟩;go_wp2;go_quiet (fail);go_wp2
    go_ret3
    refine ⟨Or.inl ⟨n,by rw[size_list];exact hlt,Hn.out,?_⟩,Drawn.below ⟨nq,rfl⟩ _⟩;rw[←jeu,←jl5];try rfl
  · obtain ⟨z,hz⟩:=jx (Lib.indexByte s.data.toList 46);rw[hz] at HI hi;(have hz':¬0≤z:=by omega);have Hn:=jj h2;clear h2 hz;go_enter Tryz.func196,Tryz.ntmps196;go_wp2_with fail;(with_reducible refine HI.out.mono ?_);rintro e w1 ⟨rfl,rfl⟩;go_wp2
    go_ret3
    exact ⟨Or.inr ⟨Hn.out,by rw[jj9];rfl⟩,Below.refl _ _⟩
theorem pcutD (s:ByteArray) (hl:s.size≤9223372036854775807) (w:World):Calls Tryz.prog 156 #[.string s,.string ⟨#[46]⟩] w (CutD w s.data.toList):=by
  have HI:=jj (scutD s hl w);go_enter Tryz.func156,Tryz.ntmps156;go_wp2_with fail;(with_reducible refine HI.out.mono ?_);rintro e w1 ⟨h | h,hb⟩
  · obtain ⟨n,h1,h2,rfl⟩:=h;have H:=jj (And.intro h1 h2);have HB:=jj hb;clear h1 h2 hb;go_wp2
    go_ret3
    exact ⟨Or.inl ⟨n,H.out.1,H.out.2,rfl⟩,HB.out⟩
  · obtain ⟨h1,rfl⟩:=h;have H:=jj h1;have HB:=jj hb;clear h1 hb;go_wp2
    go_ret3
    exact ⟨Or.inr ⟨H.out,rfl⟩,HB.out⟩
theorem typ_dot {x:List UInt8} {n:Nat} (h:n<x.length) (ht:x.takeWhile (· != 46)=x.take n):jja x=[tk1 1 (x.take n)]++[tk1 1 (x.drop (n+1))]:=by
  unfold jja;rw[ht];dsimp only;rw[List.length_take,Nat.min_eq_left (by omega),if_neg (by omega)];try rfl
theorem typ_plain {x:List UInt8} (ht:x.takeWhile (· != 46)=x):jja x=[tk1 1 x]:=by
  unfold jja;rw[ht];dsimp only;rw[if_pos rfl]
theorem jkx (x:List UInt8) (hx:x.length≤9223372036854775807) {p:Nat} {W:World} {u:Value} {l:List Tk} (hS:ShS p W u l) (hl:l.length≤1999999999) :
    Calls Tryz.prog 182 #[.pointer (some ⟨p,0,none⟩),.string (bs x)] W (ExV p W u l (jja x)):=by
  have HI:=jj (pcutD (bs x) (by rw[jbs];exact hx) W);rw[jac] at HI;have HS:=jj hS;clear hS;go_enter Tryz.func182,Tryz.ntmps182;go_wp2_with fail;(with_reducible refine HI.out.mono ?_);rintro e w1 ⟨h | h,hb⟩
  · obtain ⟨n,h1,h2,rfl⟩:=h;have H:=jj (typ_dot h1 h2);have HB:=jj hb;have HC:=jj (pexpect 1 (bs (x.take n)) _ rfl (HS.out.go hb) (by omega));clear h1 h2 hb;go_wp2_with fail;(with_reducible refine HC.out.mono ?_);rintro e w2 ⟨u2,rfl,hs2,hf2⟩;have HC2:=jj (pexpect 1 (bs (x.drop (n+1))) _ rfl hs2 (by rw[List.length_append,List.length_singleton];omega));have HF2:=jj hf2;clear hs2 hf2;go_wp2_with fail;(with_reducible refine HC2.out.mono ?_);rintro e w3 ⟨u3,rfl,hs3,hf3⟩;have HS3:=jj hs3;have HF3:=jj hf3;clear hs3 hf3;go_wp2;refine bodyPost_ret (results_none rfl _ _ _) rfl ⟨u3,rfl,?_,((ShF.of (Nat.le_of_lt HS.out.lt) HB.out u).trans HF2.out).trans HF3.out⟩;rw[H.out,←List.append_assoc];exact HS3.out
  · obtain ⟨h1,rfl⟩:=h;have H:=jj (typ_plain h1);have HB:=jj hb;have HC:=jj (pexpect 1 (bs x) _ rfl (HS.out.go hb) (by omega));clear h1 hb;go_wp2_with fail;(with_reducible refine HC.out.mono ?_);rintro e w2 ⟨u2,rfl,hs2,hf2⟩;have HS2:=jj hs2;have HF2:=jj hf2;clear hs2 hf2;go_wp2;refine bodyPost_ret (results_none rfl _ _ _) rfl ⟨u2,rfl,?_,(ShF.of (Nat.le_of_lt HS.out.lt) HB.out u).trans HF2.out⟩;rw[H.out];exact HS2.out
end
end Go.Proofs.YtonoklmobocikaaGreatDoor
