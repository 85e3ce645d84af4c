/- Lemmas. -/
import Derived.Test.YtonoklmobocikaaGreatDoorK35
import Derived.Test.YtonoklmobocikaaGreatDoorK68
set_option linter.unusedVariables false
set_option linter.unusedSimpArgs false
set_option maxRecDepth 20000
set_option maxHeartbeats 6400000
namespace Go.Proofs.YtonoklmobocikaaGreatDoor
section
open Go.RowKit
open Go.Lib (byteCells)
theorem body_step {s:ByteArray} {k:Nat} (h:k<s.size):34 :: jff (s.data.toList.take (k+1))=(34 :: jff (s.data.toList.take k))++jee s[k]:=by
  rw[List.take_succ_eq_append_getElem (by simpa using h),body_app,←List.cons_append];congr 1;show jee (s.data.toList[k])++[]=_;rw[List.append_nil];try rfl
theorem rquote (s:ByteArray) (hs:s.size≤2000000) (w:World):Calls Tryz.prog 55 #[.string s] w fun e w'=>e=.returned (.string (bs (jhx s.data.toList)))∧Below w.heap.size w w':=by
  obtain ⟨i0,hi,hz0,hz1,hz2⟩:=info_parts info5;obtain ⟨w0,hw0⟩:=jx (w.alloc (.cells #[.int .u8 34] 5));(have hO0:Own w0 w.heap.size 5 (.slice (some ⟨w.heap.size,0,none⟩) 1 1) (byteCells (34 :: jff (s.data.toList.take 0))):=by rw[←hw0];exact own_lit5 w #[.int .u8 34] _ 1 rfl rfl (by decide));(have hb0:Below w.heap.size w w0:=by rw[←hw0];exact jak (Below.refl _ w) _);have HO0:=jj hO0;have HB0:=jj hb0;have HW0:=jj hw0;clear hO0 hb0 hw0;go_enter Tryz.func55,Tryz.ntmps55;go_wp2_with fail;rw[HW0.out];clear HW0
  go_loopw [3,4] (fun u y wr=>∃k:Nat,k≤s.size∧y=.int .i64 (k:Int)∧Own wr w.heap.size 5 u (byteCells (34 :: jff (s.data.toList.take k)))∧Below w.heap.size w wr) (fun _ y _=>s.size - (intOf y).toNat)
  case atStart=>exact ⟨0,Nat.zero_le _,rfl,HO0.out,HB0.out⟩
  case round =>
    clear HO0 HB0;obtain ⟨k,hk,rfl,hown,hb⟩:=hrel;obtain ⟨w2,hw2⟩:∃w2,w2=wr:=⟨wr,rfl⟩;subst hw2;have hsz:=hb.size;have HB:=jj hb;have HO:=jj hown
    have hlen:(byteCells (34 :: jff (s.data.toList.take k))).length≤4000001:=by
      have:=body_len (s.data.toList.take k);rw[List.length_take,size_list] at this;rw[jm0];simp only[List.length_cons];omega
    have Hlen:=jj hlen;clear hb hlen;by_cases hlt:k<s.size
    · (have hki:(k:Int)<(s.size:Int):=by omega);have hst:=body_step hlt;have q34:(((s[k]).toNat:Int)==34)=decide (s[k]=34):=je9 (n:=34) (by decide);have q92:(((s[k]).toNat:Int)==92)=decide (s[k]=92):=je9 (n:=92) (by decide);have q10:(((s[k]).toNat:Int)==10)=decide (s[k]=10):=je9 (n:=10) (by decide);obtain ⟨L,hL⟩:=jx (byteCells (34 :: jff (s.data.toList.take k)));rw[hL] at HO Hlen hown;have HLL:=jj hL;clear hown hL;by_cases h34:s[k]=34∨s[k]=92
      · have hw:jee s[k]=[92,s[k]]:=by
          unfold jee;rcases h34 with h | h<;>rw[h]<;>rfl
        rw[hw] at hst;have Hst:=jj (show byteCells (34 :: jff (s.data.toList.take (k+1)))=L++[.int .u8 92,.int .u8 ((s[k]).toNat:Int)] by rw[hst,Go.Lib.byteCells_append,HLL.out];rfl);have HS:=jj (lit_sl w2 #[.int .u8 92,.int .u8 ((s[k]).toNat:Int)] 5 [.int .u8 92,.int .u8 ((s[k]).toNat:Int)] 2 rfl rfl (by decide));have HO2:=jj (HO.out.below (jak (Below.refl w2.heap.size w2) (.cells #[.int .u8 92,.int .u8 ((s[k]).toNat:Int)] 5)));have HB2:=jj (jak (Below.refl w2.heap.size w2) (.cells #[.int .u8 92,.int .u8 ((s[k]).toNat:Int)] 5))
        have hone:∀u∈[Value.int .u8 92,.int .u8 ((s[k]).toNat:Int)],u.oneCell'=true:=by
          intro u hu;simp at hu;rcases hu with rfl | rfl<;>rfl
        have Hone:=jj hone;(have hsz2:w.heap.size≤(w2.alloc (.cells #[.int .u8 92,.int .u8 ((s[k]).toNat:Int)] 5)).heap.size:=by simp;omega);have Hsz2:=jj hsz2;clear hst hw hone hsz2;by_cases h3:s[k]=34
        · rw[decide_eq_true h3] at q34;clear h34 h3 q92 q10;go_wp2_with (at_builtin;refine wp_join (by rfl) (.tmp 22) (.tmp 26) 93 (by rfl) 5 i0 _ 1 Tryz.underlying93 hi hz0 hz1 hz2 rfl w.heap.size u3 _ (by rfl) _ HO2.out Hsz2.out (some ⟨w2.heap.size,0,none⟩) 2 2 _ (by rfl) HS.out Hone.out (by have:=Hlen.out;omega) (by have:=Hlen.out;unfold maxLen;omega) ?_);intro v' w3 hown3 hb3;rw[←Hst.out] at hown3;obtain ⟨A3,m3,c3,rfl,-,-⟩:=hown3.sl5;have HO3:=jj hown3;have HB3:=jj (HB.out.trans ((HB2.out.mono hsz).trans hb3));clear hown3 hb3;go_wp2;go_roundw
          case rel=>exact ⟨k+1,by omega,by go_num,HO3.out,HB3.out⟩
          case measure=>simp[intOf];omega
        · (have h9:s[k]=92:=by rcases h34 with h | h;exact absurd h h3;exact h);rw[decide_eq_false h3] at q34;rw[decide_eq_true h9] at q92;clear h34 h3 h9 q10;go_wp2_with (at_builtin;refine wp_join (by rfl) (.tmp 22) (.tmp 26) 93 (by rfl) 5 i0 _ 1 Tryz.underlying93 hi hz0 hz1 hz2 rfl w.heap.size u3 _ (by rfl) _ HO2.out Hsz2.out (some ⟨w2.heap.size,0,none⟩) 2 2 _ (by rfl) HS.out Hone.out (by have:=Hlen.out;omega) (by have:=Hlen.out;unfold maxLen;omega) ?_);intro v' w3 hown3 hb3;rw[←Hst.out] at hown3;obtain ⟨A3,m3,c3,rfl,-,-⟩:=hown3.sl5;have HO3:=jj hown3;have HB3:=jj (HB.out.trans ((HB2.out.mono hsz).trans hb3));clear hown3 hb3;go_wp2;go_roundw
          case rel=>exact ⟨k+1,by omega,by go_num,HO3.out,HB3.out⟩
          case measure=>simp[intOf];omega
      · rw[decide_eq_false (fun h=>h34 (Or.inl h))] at q34;rw[decide_eq_false (fun h=>h34 (Or.inr h))] at q92;by_cases h10:s[k]=10
        · (have hw:jee s[k]=[92,110]:=by rw[h10];rfl);rw[hw] at hst;rw[decide_eq_true h10] at q10;have Hst:=jj (show byteCells (34 :: jff (s.data.toList.take (k+1)))=L++[.int .u8 92,.int .u8 110] by rw[hst,Go.Lib.byteCells_append,HLL.out];rfl);have HS:=jj (lit_sl w2 #[.int .u8 92,.int .u8 110] 5 [.int .u8 92,.int .u8 110] 2 rfl rfl (by decide));have HO2:=jj (HO.out.below (jak (Below.refl w2.heap.size w2) (.cells #[.int .u8 92,.int .u8 110] 5)));have HB2:=jj (jak (Below.refl w2.heap.size w2) (.cells #[.int .u8 92,.int .u8 110] 5))
          have hone:∀u∈[Value.int .u8 92,.int .u8 110],u.oneCell'=true:=by
            intro u hu;simp at hu;rcases hu with rfl | rfl<;>rfl
          have Hone:=jj hone;(have hsz2:w.heap.size≤(w2.alloc (.cells #[.int .u8 92,.int .u8 110] 5)).heap.size:=by simp;omega);have Hsz2:=jj hsz2;clear hst hw hone hsz2 h34 h10;go_wp2_with (at_builtin;refine wp_join (by rfl) (.tmp 32) (.tmp 33) 93 (by rfl) 5 i0 _ 1 Tryz.underlying93 hi hz0 hz1 hz2 rfl w.heap.size u3 _ (by rfl) _ HO2.out Hsz2.out (some ⟨w2.heap.size,0,none⟩) 2 2 _ (by rfl) HS.out Hone.out (by have:=Hlen.out;omega) (by have:=Hlen.out;unfold maxLen;omega) ?_);intro v' w3 hown3 hb3;rw[←Hst.out] at hown3;obtain ⟨A3,m3,c3,rfl,-,-⟩:=hown3.sl5;have HO3:=jj hown3;have HB3:=jj (HB.out.trans ((HB2.out.mono hsz).trans hb3));clear hown3 hb3;go_wp2;go_roundw
          case rel=>exact ⟨k+1,by omega,by go_num,HO3.out,HB3.out⟩
          case measure=>simp[intOf];omega
        · (have hw:jee s[k]=[s[k]]:=by unfold jee;rw[if_neg (fun h=>h34 (Or.inl h)),if_neg (fun h=>h34 (Or.inr h)),if_neg h10]);rw[hw] at hst;rw[decide_eq_false h10] at q10;have Hst:=jj (show byteCells (34 :: jff (s.data.toList.take (k+1)))=L++[.int .u8 ((s[k]).toNat:Int)] by rw[hst,Go.Lib.byteCells_append,HLL.out];rfl);clear hst hw h34 h10;go_wp2_with (at_builtin;refine jf3 (by rfl) (.tmp 35) (.tmp 39) 93 (by rfl) 5 i0 _ 1 Tryz.underlying93 hi hz0 hz1 hz2 rfl w.heap.size u3 _ (by rfl) w2 (.int .u8 ((s[k]).toNat:Int)) rfl HO.out hsz _ rfl (by rfl) (by have:=Hlen.out;omega) (by have:=Hlen.out;unfold maxLen;omega) _ ?_);intro v' w3 hown3 hb3 _;rw[←Hst.out] at hown3;obtain ⟨A3,m3,c3,rfl,-,-⟩:=hown3.sl5;have HO3:=jj hown3;have HB3:=jj (HB.out.trans hb3);clear hown3 hb3;go_wp2;go_roundw
          case rel=>exact ⟨k+1,by omega,by go_num,HO3.out,HB3.out⟩
          case measure=>simp[intOf];omega
    · (have hki:¬(k:Int)<(s.size:Int):=by omega);have hk':s.data.toList.take k=s.data.toList:=List.take_of_length_le (by rw[size_list];omega);rw[hk'] at HO Hlen hown;clear hk' hown;go_wp2_with (at_builtin;refine jf3 (by rfl) (.tmp 41) (.tmp 42) 93 (by rfl) 5 i0 _ 1 Tryz.underlying93 hi hz0 hz1 hz2 rfl w.heap.size u3 _ (by rfl) w2 (.int .u8 34) rfl HO.out hsz _ rfl (by rfl) (by have:=Hlen.out;omega) (by have:=Hlen.out;unfold maxLen;omega) _ ?_);intro v' w3 hown3 hb3 _
      have hown4:Own w3 w.heap.size 5 v' (byteCells (jhx s.data.toList)):=by
        unfold jhx;rw[←List.cons_append,Go.Lib.byteCells_append];exact hown3
      obtain ⟨A3,m3,c3,rfl,hm3,hs3⟩:=hown4.sl5;have hcv:=conv_run hs3.reads (c:=c3) 93 9 5 Tryz.underlying93 Tryz.underlying5 Tryz.underlying9 (fun e=>by have:=hs3.2.2.1 e;have:=hs3.1;omega);obtain ⟨Z,hZ⟩:=jx ((⟨(jhx s.data.toList).toArray⟩:ByteArray));rw[hZ] at hcv;have HZ:=jj (show Z=bs (jhx s.data.toList) from hZ.symm);have HB3:=jj (HB.out.trans hb3);clear hown3 hown4 hb3 hs3 hm3 hZ;go_wp2;go_ret;exact ⟨jg6 HZ.out,HB3.out⟩
theorem print_snoc (l:List Tk) (t:Tk) (h:l≠[]):jc6 (l++[t])=jc6 l++32 :: jhr t.kind t.text:=by
  induction l with
  | nil=>exact absurd rfl h
  | cons x l ih =>
    cases l with
    | nil=>rfl
    | cons y l =>
      rw[List.cons_append,List.cons_append,text_more,text_more,←List.cons_append,ih (by simp),List.append_assoc];try rfl
theorem ji2 (a b:ByteArray):(a++b).data.toList=a.data.toList++b.data.toList:=ByteArray.toList_data_append
theorem short_take {l:List Tk} (h:Short l) (k:Nat):Short (l.take k):=fun t ht=>h t (List.mem_of_mem_take ht)
set_option maxHeartbeats 12800000 in
theorem rprint (A:Option Addr) (n c:Nat) (l:List Tk) (w:World) (h:TkS w A n c l) (hn:n≤700) (hsh:Short l) :
    Calls Tryz.prog 31 #[.slice A n c] w fun e w'=>e=.returned (.tuple #[.string (bs (if jad l=true then jc6 l else [])),.int .i64 (if jad l=true then 0 else 1)])∧Below w.heap.size w w':=by
  have H1:=jj h;have Hn:=jj h.2.2.1;have hnc:=h.1;have hcc:=h.2.1;have Hsh:=jj hsh;obtain ⟨P,hP⟩:=jx (bs (if jad l=true then jc6 l else []));obtain ⟨E,hE⟩:∃E:Int,(if jad l=true then 0 else 1)=E:=⟨_,rfl⟩;rw[hP,hE];have HP:=jj hP;have HE:=jj hE;clear h hsh hP hE;go_enter Tryz.func31,Tryz.ntmps31;go_wp2_with fail
  go_loopw [4,5] (fun u y wr=>∃(k:Nat) (S:ByteArray),k≤n∧u=.string S∧y=.int .i64 (k:Int)∧S.data.toList=jc6 (l.take k)∧Below w.heap.size w wr∧jad (l.take k)=true) (fun _ y _=>n - (intOf y).toNat)
  case atStart=>exact ⟨0,⟨#[]⟩,Nat.zero_le _,rfl,rfl,rfl,Below.refl _ _,rfl⟩
  case round =>
    obtain ⟨k,S,hk,rfl,rfl,hS,hb,hr⟩:=hrel;obtain ⟨w2,hw2⟩:∃w2,w2=wr:=⟨wr,rfl⟩;subst hw2;have hsz:=hb.size;have HB:=jj hb;have HR:=jj hr;have HS:=jj hS
    have hSs:S.size≤150000:=by
      have h1:=print_len (short_take Hsh.out k);rw[←hS,size_list,List.length_take] at h1;omega
    by_cases hlt:k<n
    · obtain ⟨g,o,t,rfl,ht,c0,c1,c2,c3⟩:=(H1.out.below hb).at_ hlt;have htl:t.text.length≤100:=Hsh.out t (List.mem_of_getElem? ht);(have hki:(k:Int)<(n:Int):=by omega);obtain ⟨q,hq⟩:=jx (jb8 t.kind t.text);have HC:=jj (fun W=>rright t.kind t.at_ t.en (bs t.text) (by rw[jbs];omega) q (by rw[jac];exact hq) W);have Hst:=jj (jif ht);have HT:=jj ht;obtain ⟨tk,htk⟩:=jx (t.kind);obtain ⟨tt,htt⟩:=jx (bs t.text);obtain ⟨ta,hta⟩:=jx (t.at_);obtain ⟨te,hte⟩:=jx (t.en);(have htts:tt.size≤100:=by rw[←htt,jbs];exact htl);have Htd:=jj (show tt.data.toList=t.text by rw[←htt,jac]);rw[htk,htt,hta,hte] at HC;rw[htk] at c0;rw[htt] at c1;rw[hta] at c2;rw[hte] at c3;have Htk:=jj htk;have Hq:=jj hq;clear hb hr hS hq ht htk htt hta hte htl
      cases q with
      | false =>
        have HA:=jj (show jad l=false from not_right HT.out (fun e=>by rw[jlm e] at Hq;have:=Hq.out;cases this));go_wp2_with fail;(with_reducible refine (HC.out _).mono ?_);rintro e w3 ⟨rfl,hb3⟩;have HB3:=jj (bgo HB.out hb3);clear hb3;go_wp2
        go_ret2
        exact ⟨ret_si (by rw[←HP.out,HA.out];rfl) (by rw[←HE.out,HA.out];rfl),HB3.out⟩
      | true =>
        have HR2:=jj (show jad (l.take (k+1))=true by rw[Hst.out];exact jme HR.out Hq.out);have HQ:=jj (fun W=>rquote tt (by omega) W)
        have hql:(jhx tt.data.toList).length≤202:=by
          have:=tokP_len 4 tt.data.toList;rw[size_list] at this;have h2:jhr 4 tt.data.toList=jhx tt.data.toList:=rfl;rw[h2] at this;omega
        obtain ⟨QQ,hQQ⟩:=jx (bs (jhx tt.data.toList));(have hqs:QQ.size≤202:=by rw[←hQQ,jbs];exact hql);have Hqd:=jj (show QQ.data.toList=jhx tt.data.toList by rw[←hQQ,jac]);rw[hQQ] at HQ;clear hql hQQ;by_cases hk0:k=0
        · have HS0:=jj (show jc6 (l.take (k+1))=jhr tk tt.data.toList by
            rw[Hst.out,show l.take k=[] by rw[hk0];rfl,List.nil_append,text_one,Htk.out,Htd.out])
          have HSn:=jj (show S.data.toList=[] by rw[HS.out,hk0];rfl);have hkd:decide ((k:Int) > 0)=false:=decide_eq_false (by omega);have hkd':decide ((0:Int)<(k:Int))=false:=decide_eq_false (by omega);have hkn:decide (0<k)=false:=decide_eq_false (by omega);(have hkm:¬0<k:=by omega);clear hk0;by_cases h4:tk=4
          · subst h4
            have HN:=jj (show (S++QQ).data.toList=jc6 (l.take (k+1)) by
              rw[HS0.out];simp only[ji2,HSn.out,Hqd.out]
              simp[jhr])
            go_wp2_with fail;(with_reducible refine (HC.out _).mono ?_);rintro e w3 ⟨rfl,hb3⟩;obtain ⟨d0,d1⟩:=And.intro ((hb3.cell (p:=⟨g,o+k*4,none⟩) (World.block_lt_of_cell? _ _ c0)).trans c0) ((hb3.cell (p:=⟨g,o+k*4+1,none⟩) (World.block_lt_of_cell? _ _ c1)).trans c1);have HB3:=jj (bgo HB.out hb3);clear hb3 c0 c1 c2 c3;go_wp2_with fail;(with_reducible refine (HQ.out _).mono ?_);rintro e w4 ⟨rfl,hb4⟩;have HB4:=jj (bgo HB3.out hb4);clear hb4 d0 d1;go_wp2;go_roundw
            case rel=>exact ⟨k+1,_,by omega,rfl,by go_num,HN.out,HB4.out,HR2.out⟩
            case measure=>simp[intOf];omega
          · have e4:(tk==4)=false:=beq_eq_false_iff_ne.2 h4;by_cases h6:tk=6
            · subst h6
              have HN:=jj (show ((S++⟨#[36]⟩)++tt).data.toList=jc6 (l.take (k+1)) by
                rw[HS0.out];simp only[ji2,HSn.out]
                simp[jhr])
              clear h4;go_wp2_with fail;(with_reducible refine (HC.out _).mono ?_);rintro e w3 ⟨rfl,hb3⟩;obtain ⟨d0,d1⟩:=And.intro ((hb3.cell (p:=⟨g,o+k*4,none⟩) (World.block_lt_of_cell? _ _ c0)).trans c0) ((hb3.cell (p:=⟨g,o+k*4+1,none⟩) (World.block_lt_of_cell? _ _ c1)).trans c1);have HB3:=jj (bgo HB.out hb3);clear hb3 c0 c1 c2 c3;go_wp2;go_roundw
              case rel=>exact ⟨k+1,_,by omega,rfl,by go_num,HN.out,HB3.out,HR2.out⟩
              case measure=>simp[intOf];omega
            · have e6:(tk==6)=false:=beq_eq_false_iff_ne.2 h6;by_cases h7:tk=7
              · subst h7
                have HN:=jj (show ((S++⟨#[36,36]⟩)++tt).data.toList=jc6 (l.take (k+1)) by
                  rw[HS0.out];simp only[ji2,HSn.out]
                  simp[jhr])
                clear h4 h6;go_wp2_with fail;(with_reducible refine (HC.out _).mono ?_);rintro e w3 ⟨rfl,hb3⟩;obtain ⟨d0,d1⟩:=And.intro ((hb3.cell (p:=⟨g,o+k*4,none⟩) (World.block_lt_of_cell? _ _ c0)).trans c0) ((hb3.cell (p:=⟨g,o+k*4+1,none⟩) (World.block_lt_of_cell? _ _ c1)).trans c1);have HB3:=jj (bgo HB.out hb3);clear hb3 c0 c1 c2 c3;go_wp2;go_roundw
                case rel=>exact ⟨k+1,_,by omega,rfl,by go_num,HN.out,HB3.out,HR2.out⟩
                case measure=>simp[intOf];omega
              · have e7:(tk==7)=false:=beq_eq_false_iff_ne.2 h7
                have HN:=jj (show (S++tt).data.toList=jc6 (l.take (k+1)) by
                  rw[HS0.out];simp only[ji2,HSn.out]
                  simp[jhr,h4,h6,h7])
                clear h4 h6 h7;go_wp2_with fail;(with_reducible refine (HC.out _).mono ?_);rintro e w3 ⟨rfl,hb3⟩;obtain ⟨d0,d1⟩:=And.intro ((hb3.cell (p:=⟨g,o+k*4,none⟩) (World.block_lt_of_cell? _ _ c0)).trans c0) ((hb3.cell (p:=⟨g,o+k*4+1,none⟩) (World.block_lt_of_cell? _ _ c1)).trans c1);have HB3:=jj (bgo HB.out hb3);clear hb3 c0 c1 c2 c3;go_wp2;go_roundw
                case rel=>exact ⟨k+1,_,by omega,rfl,by go_num,HN.out,HB3.out,HR2.out⟩
                case measure=>simp[intOf];omega
        · have HS0:=jj (show jc6 (l.take (k+1))=S.data.toList++32 :: jhr tk tt.data.toList by
            rw[Hst.out,print_snoc _ _ (fun e=>by have:=congrArg List.length e;rw[List.length_take,Hn.out] at this;simp at this;omega),HS.out,Htk.out,Htd.out])
          have hkd:decide ((k:Int) > 0)=true:=decide_eq_true (by omega);have hkd':decide ((0:Int)<(k:Int))=true:=decide_eq_true (by omega);have hkn:decide (0<k)=true:=decide_eq_true (by omega);(have hkm:0<k:=by omega);clear hk0;by_cases h4:tk=4
          · subst h4
            have HN:=jj (show ((S++⟨#[32]⟩)++QQ).data.toList=jc6 (l.take (k+1)) by
              rw[HS0.out];simp only[ji2,Hqd.out]
              simp[jhr])
            go_wp2_with fail;(with_reducible refine (HC.out _).mono ?_);rintro e w3 ⟨rfl,hb3⟩;obtain ⟨d0,d1⟩:=And.intro ((hb3.cell (p:=⟨g,o+k*4,none⟩) (World.block_lt_of_cell? _ _ c0)).trans c0) ((hb3.cell (p:=⟨g,o+k*4+1,none⟩) (World.block_lt_of_cell? _ _ c1)).trans c1);have HB3:=jj (bgo HB.out hb3);clear hb3 c0 c1 c2 c3;go_wp2_with fail;(with_reducible refine (HQ.out _).mono ?_);rintro e w4 ⟨rfl,hb4⟩;have HB4:=jj (bgo HB3.out hb4);clear hb4 d0 d1;go_wp2;go_roundw
            case rel=>exact ⟨k+1,_,by omega,rfl,by go_num,HN.out,HB4.out,HR2.out⟩
            case measure=>simp[intOf];omega
          · have e4:(tk==4)=false:=beq_eq_false_iff_ne.2 h4;by_cases h6:tk=6
            · subst h6
              have HN:=jj (show (((S++⟨#[32]⟩)++⟨#[36]⟩)++tt).data.toList=jc6 (l.take (k+1)) by
                rw[HS0.out];simp only[ji2]
                simp[jhr])
              clear h4;go_wp2_with fail;(with_reducible refine (HC.out _).mono ?_);rintro e w3 ⟨rfl,hb3⟩;obtain ⟨d0,d1⟩:=And.intro ((hb3.cell (p:=⟨g,o+k*4,none⟩) (World.block_lt_of_cell? _ _ c0)).trans c0) ((hb3.cell (p:=⟨g,o+k*4+1,none⟩) (World.block_lt_of_cell? _ _ c1)).trans c1);have HB3:=jj (bgo HB.out hb3);clear hb3 c0 c1 c2 c3;go_wp2;go_roundw
              case rel=>exact ⟨k+1,_,by omega,rfl,by go_num,HN.out,HB3.out,HR2.out⟩
              case measure=>simp[intOf];omega
            · have e6:(tk==6)=false:=beq_eq_false_iff_ne.2 h6;by_cases h7:tk=7
              · subst h7
                have HN:=jj (show (((S++⟨#[32]⟩)++⟨#[36,36]⟩)++tt).data.toList=jc6 (l.take (k+1)) by
                  rw[HS0.out];simp only[ji2]
                  simp[jhr])
                clear h4 h6;go_wp2_with fail;(with_reducible refine (HC.out _).mono ?_);rintro e w3 ⟨rfl,hb3⟩;obtain ⟨d0,d1⟩:=And.intro ((hb3.cell (p:=⟨g,o+k*4,none⟩) (World.block_lt_of_cell? _ _ c0)).trans c0) ((hb3.cell (p:=⟨g,o+k*4+1,none⟩) (World.block_lt_of_cell? _ _ c1)).trans c1);have HB3:=jj (bgo HB.out hb3);clear hb3 c0 c1 c2 c3;go_wp2;go_roundw
                case rel=>exact ⟨k+1,_,by omega,rfl,by go_num,HN.out,HB3.out,HR2.out⟩
                case measure=>simp[intOf];omega
              · have e7:(tk==7)=false:=beq_eq_false_iff_ne.2 h7
                have HN:=jj (show ((S++⟨#[32]⟩)++tt).data.toList=jc6 (l.take (k+1)) by
                  rw[HS0.out];simp only[ji2]
                  simp[jhr,h4,h6,h7])
                clear h4 h6 h7;go_wp2_with fail;(with_reducible refine (HC.out _).mono ?_);rintro e w3 ⟨rfl,hb3⟩;obtain ⟨d0,d1⟩:=And.intro ((hb3.cell (p:=⟨g,o+k*4,none⟩) (World.block_lt_of_cell? _ _ c0)).trans c0) ((hb3.cell (p:=⟨g,o+k*4+1,none⟩) (World.block_lt_of_cell? _ _ c1)).trans c1);have HB3:=jj (bgo HB.out hb3);clear hb3 c0 c1 c2 c3;go_wp2;go_roundw
                case rel=>exact ⟨k+1,_,by omega,rfl,by go_num,HN.out,HB3.out,HR2.out⟩
                case measure=>simp[intOf];omega
    · (have hki:¬(k:Int)<(n:Int):=by omega);have hall:l.take k=l:=List.take_of_length_le (by rw[Hn.out];omega);rw[hall] at HS HR;have HSb:=jj (show S=bs (jc6 l) by rw[←HS.out,jj9]);clear hall hb hr hS;go_wp2
      go_ret2
      exact ⟨ret_si (by rw[←HP.out,HR.out,HSb.out];rfl) (by rw[←HE.out,HR.out];rfl),HB.out⟩
end
section
open Go.RowKit
theorem law9 (s:ByteArray) (hs:s.size≤2000000) (w:World):Calls Tryz.prog 9 #[.string s] w fun en w'=>en=.returned (.bool true)∧Below w.heap.size w w':=by
  have HA:=jj (jla w);have H1:=jj (fun W=>jjz s hs W);have H2:=jj (fun W=>rScan s hs W);obtain ⟨⟨N,i1,e1⟩,hX⟩:∃X,jdh s.data.toList=X:=⟨_,rfl⟩;rw[hX] at H1;have HX:=jj hX;(have hsi:(s.size:Int)≤2000000:=by omega);clear hX;go_enter Tryz.func9,Tryz.ntmps9;go_wp2_with fail;(with_reducible refine HA.out.mono ?_);rintro en w1 ⟨rfl,hb1⟩;have HB1:=jj hb1;clear hb1;go_wp2_with fail;(with_reducible refine (H1.out _).mono ?_);intro en w2 hgot;obtain ⟨A,m,d,rfl,hk,hb2⟩:=jka hgot;have hb3:=jak hb2 (.cells #[.int .i64 N.kind,.string (bs N.text),.int .i64 N.at_,.int .i64 N.en,.slice A m d] 25);have f3:=ja6 w2 (.int .i64 N.kind) (.string (bs N.text)) (.int .i64 N.at_) (.int .i64 N.en) (.slice A m d) 25;have k3:=hk.kept (jak (Below.refl _ w2) (.cells #[.int .i64 N.kind,.string (bs N.text),.int .i64 N.at_,.int .i64 N.en,.slice A m d] 25));clear hgot hk hb2;go_upto_region 4 with fail;obtain ⟨w3,hw3⟩:=jx (w2.alloc (.cells #[.int .i64 N.kind,.string (bs N.text),.int .i64 N.at_,.int .i64 N.en,.slice A m d] 25));obtain ⟨p1,hp1⟩:∃p,w2.heap.size=p:=⟨_,rfl⟩;rw[hw3] at hb3 f3 k3 ⊢;rw[hp1] at f3 ⊢;have HB3:=jj (bgo HB1.out hb3);have F3:=jj f3;have K3:=jj k3;clear hb3 f3 k3 hw3 hp1;by_cases h3:2000<s.size
  · (have hg:(2000:Int)<(s.size:Int):=by omega);have hg2:(s.size:Int) > 2000:=hg;clear h3;go_wp2;go_ret;exact ⟨rfl,HB3.out⟩
  (have hg:¬(2000:Int)<(s.size:Int):=by omega);have hg2:¬(s.size:Int) > 2000:=hg;by_cases he:e1=0
  case neg =>
    have r1:(e1 != 0)=true:=jjd he;clear he h3;go_wp2;go_ret;exact ⟨rfl,HB3.out⟩
  have r1:(e1 != 0)=false:=jje he;subst he;obtain ⟨T,hT,har,hl6,M,hM,hst⟩:=module_blanks HX.out;have hsh:Short T:=fun t ht=>Nat.le_trans ((scan_60 hT).2 t ht) (by decide);have hpl:=print_len hsh;have H3:=jj (fun W=>jjz (bs (jc6 T)) (by rw[jbs];omega) W);rw[jac,hM] at H3;rw[hT] at H2;have H4:=jj (fun (A:Option Addr) (n c:Nat) (W:World) (h:TkS W A n c T)=>rprint A n c T W h (by have:=h.2.2.1;omega) hsh);rw[if_pos har,if_pos har] at H4;have HEq:=jj (show eqN false N M=true from (jlx N M).2 hst.symm);clear hT har hl6 hM hst hsh hpl h3;go_wp2_with fail;(with_reducible refine (H2.out _).mono ?_);rintro en w4 ⟨A4,n4,c4,rfl,ht4,hb4⟩;have HT4:=jj (show TkS w4 A4 n4 c4 T from ht4);have HB4:=jj hb4;clear hb4 ht4;dsimp only[jmg];go_wp2_with fail;(with_reducible refine (H4.out _ _ _ _ HT4.out).mono ?_);rintro en w5 ⟨rfl,hb5⟩;have HB5:=jj (bgo HB4.out hb5);clear hb5;go_wp2_with fail;(with_reducible refine (H3.out _).mono ?_);intro en w6 hgot;obtain ⟨A',m',d',rfl,hk,hb6⟩:=jka hgot;have hb7:=jak hb6 (.cells #[.int .i64 M.kind,.string (bs M.text),.int .i64 M.at_,.int .i64 M.en,.slice A' m' d'] 25);have f7:=ja6 w6 (.int .i64 M.kind) (.string (bs M.text)) (.int .i64 M.at_) (.int .i64 M.en) (.slice A' m' d') 25;have k7:=hk.kept (jak (Below.refl _ w6) (.cells #[.int .i64 M.kind,.string (bs M.text),.int .i64 M.at_,.int .i64 M.en,.slice A' m' d'] 25));clear hgot hk hb6;go_upto_region 9 with fail;obtain ⟨w7,hw7⟩:=jx (w6.alloc (.cells #[.int .i64 M.kind,.string (bs M.text),.int .i64 M.at_,.int .i64 M.en,.slice A' m' d'] 25));obtain ⟨p2,hp2⟩:∃p,w6.heap.size=p:=⟨_,rfl⟩;rw[hw7] at hb7 f7 k7 ⊢;rw[hp2] at f7 ⊢;have HB7:=jj (bgo HB5.out hb7);have HS:=jj (pSame (sizeN N) N M w7 _ _ _ _ (Nat.le_refl _) (jb7 (K3.out.kept HB7.out)) (jb7 k7));rw[HEq.out] at HS;obtain ⟨-,t0,t1,t2,t3,t4⟩:=F3.out.keep HB7.out;obtain ⟨-,z0,z1,z2,z3,z4⟩:=f7;clear hb7 k7 hw7 hp2;go_wp2_with fail;(with_reducible refine HS.out.mono ?_);rintro en w8 ⟨rfl,hb8⟩;have HB8:=jj (bgo (bgo HB3.out HB7.out) hb8);clear hb8;go_wp2;go_ret;exact ⟨rfl,HB8.out⟩
end
end Go.Proofs.YtonoklmobocikaaGreatDoor
