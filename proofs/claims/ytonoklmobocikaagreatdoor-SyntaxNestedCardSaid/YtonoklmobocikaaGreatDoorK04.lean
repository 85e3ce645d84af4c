/- Lemmas. -/
import Derived.Test.YtonoklmobocikaaGreatDoorK03
set_option linter.unusedVariables false
set_option linter.unusedSimpArgs false
set_option maxRecDepth 20000
set_option maxHeartbeats 6400000
namespace Go.Proofs.YtonoklmobocikaaGreatDoor
section
open Go.RowKit
theorem all_len (p:UInt8→Bool) (d:List UInt8):(((d.takeWhile p).length:Int)==(d.length:Int))=d.all p:=by
  induction d with
  | nil=>rfl
  | cons c d ih =>
    simp only[List.takeWhile,List.all_cons]
    cases hp:p c with
    | true =>
      simp only[List.length_cons,Bool.true_and];rw[←ih,Bool.eq_iff_iff,beq_iff_eq,beq_iff_eq];omega
    | false =>
      simp only[List.length_nil,List.length_cons,Bool.false_and];rw[beq_eq_false_iff_ne];omega
theorem peach (N:Nat) (p:UInt8→Bool) (s:ByteArray) (w:World) (hs:s.size≤9223372036854775807)
    (hcf:∀(xs:Array Value) (W:World),(callFunc N xs).run Tryz.prog W=.ok (.enter N xs) W)
    (hp:∀(c:UInt8) (W:World),Calls Tryz.prog N #[.int .u8 (c.toNat:Int)] W fun e w'=>e=.returned (.bool (p c))∧W=w') :
    Calls Tryz.prog 197 #[.string s,.func (.func N) #[] #[]] w fun e w'=>e=.returned (.bool (s.data.toList.all p))∧w=w':=by
  have HC:=jj (jnh N p s w hs hcf hp);have Hq:=jj (all_len p s.data.toList);obtain ⟨d,hd⟩:=jx (bs (s.data.toList.takeWhile p));have Hd:=jj (show d.size=(s.data.toList.takeWhile p).length by rw[←hd,jbs]);rw[hd] at HC;clear hp hd;go_enter Tryz.func197,Tryz.ntmps197;go_wp2_with fail;(with_reducible refine HC.out.mono ?_);rintro e w1 ⟨rfl,rfl⟩;go_wp2;go_ret;exact ⟨ja1 (by rw[←Hq.out,Hd.out,size_list]),rfl⟩
theorem plongest (k:Int) (w:World):Calls Tryz.prog 158 #[.int .i64 k] w fun e w'=>e=.returned (.int .i64 (jl0 k:Int))∧w=w':=by
  by_cases h3:k=3
  · subst h3;go_enter Tryz.func158,Tryz.ntmps158;go_wp2;go_ret;exact ⟨rfl,rfl⟩
  · by_cases h4:k=4
    · subst h4;go_enter Tryz.func158,Tryz.ntmps158;go_wp2;go_ret;exact ⟨rfl,rfl⟩
    · have e3:(k==3)=false:=beq_eq_false_iff_ne.2 h3;have e4:(k==4)=false:=beq_eq_false_iff_ne.2 h4;have Hq:=jj (show jl0 k=24 by unfold jl0;rw[if_neg h3,if_neg h4]);clear h3 h4;go_enter Tryz.func158,Tryz.ntmps158;go_wp2;go_ret;exact ⟨jck (by rw[Hq.out];rfl),rfl⟩
theorem jly {s:ByteArray} (h:s.size=0):s=⟨#[]⟩:=jn0 (by
  have:s.data.toList.length=0:=by rw[size_list];exact h
  rw[List.eq_nil_of_length_eq_zero this])
theorem jl3 {s:ByteArray} (h:0<s.size):s.data.toList=s[0] :: s.data.toList.drop 1:=by
  have:=jcp h
  rwa [List.drop_zero] at this
theorem is_zero (s:ByteArray):(s.toList==[48])=(s.data.toList==[48]):=by rw[Lib.toList_data]
theorem pformed (k a e:Int) (s:ByteArray) (hs:s.size≤2000000) (b:Nat) (w:World) (hkw:KwD w b) (q:Bool) (hq:jgq k s.data.toList=q) :
    Calls Tryz.prog 157 #[.agg #[.int .i64 k,.string s,.int .i64 a,.int .i64 e],.map (some b)] w fun en w'=>en=.returned (.bool q)∧Below w.heap.size w w':=by
  have HB:=jj (jak (Below.refl w.heap.size w) (.cells #[.int .i64 k,.string s,.int .i64 a,.int .i64 e] 66));have hl:=(hkw.below (jak (Below.refl w.heap.size w) (.cells #[.int .i64 k,.string s,.int .i64 a,.int .i64 e] 66))).look s (by unfold maxLen;omega);have HW:=fun W=>peach 106 wdB s W (by omega) run_word pword;have HD:=fun W=>peach 103 dgB s W (by omega) run_digit pdigit;have HK:=fun W=>peach 198 jkq s W (by omega) run_content pcontent;have HM:=fun W=>pismark s _ rfl W;obtain ⟨d,hd⟩:=jx (s.data.toList);rw[hd] at HW HD HK HM hl hq;obtain ⟨al,hal⟩:=jx (d.all wdB);obtain ⟨ad,had⟩:=jx (d.all dgB);obtain ⟨kw,hk⟩:=jx (jjm d);obtain ⟨co,hco⟩:=jx (d.all jkq);obtain ⟨mk,hmk⟩:=jx (jim d);rw[hal] at HW;rw[had] at HD;rw[hco] at HK;rw[hmk] at HM;rw[hk] at hl;have HW:=jj HW;have HD:=jj HD;have HK:=jj HK;have HM:=jj HM;clear hkw;by_cases hname:k=1∨k=6∨k=7
  · have hqn:jjk d=q:=by
      rw[←hq];rcases hname with rfl | rfl | rfl
      · exact (form1 _).symm
      · exact (form6 _).symm
      · exact (form7 _).symm
    by_cases h0:s.size=0
    · obtain rfl:=jly h0;have Hq:=jj (show false=q by rw[←hqn,←hd];rfl);clear hq hqn hd hal had hk hco hmk hl h0;rcases hname with rfl | rfl | rfl
      all_goals
        go_enter Tryz.func157,Tryz.ntmps157;go_wp2;go_ret;exact ⟨ja1 Hq.out,HB.out⟩
    · (have hpos:0<s.size:=by omega);have hh:=jl3 hpos;rw[hd] at hh;have HG:=jj (fun W=>pdigit s[0] W);obtain ⟨dg,hdg⟩:=jx (dgB s[0]);rw[hdg] at HG;have hne:=jk2 s hpos
      have Hq:=jj (show (!dg&&al&&!kw)=q by
        rw[←hqn];unfold jjk;rw[hal,hk,hh]
        simp[hdg])
      clear hq hqn hd hal had hk hco hmk h0 hh hdg
      cases dg with
      | true =>
        clear hl;rcases hname with rfl | rfl | rfl
        all_goals
          go_enter Tryz.func157,Tryz.ntmps157;go_wp2_with fail;(with_reducible refine (HG.out _).mono ?_);rintro en w1 ⟨rfl,rfl⟩;go_wp2;go_ret;exact ⟨ja1 Hq.out,HB.out⟩
      | false =>
        cases al with
        | false =>
          clear hl;rcases hname with rfl | rfl | rfl
          all_goals
            go_enter Tryz.func157,Tryz.ntmps157;go_wp2_with fail;(with_reducible refine (HG.out _).mono ?_);rintro en w1 ⟨rfl,rfl⟩;go_wp2_with fail;(with_reducible refine (HW.out _).mono ?_);rintro en w1 ⟨rfl,rfl⟩;go_wp2;go_ret;exact ⟨ja1 Hq.out,HB.out⟩
        | true =>
          rcases hname with rfl | rfl | rfl
          all_goals
            go_enter Tryz.func157,Tryz.ntmps157;go_wp2_with fail;(with_reducible refine (HG.out _).mono ?_);rintro en w1 ⟨rfl,rfl⟩;go_wp2_with fail;(with_reducible refine (HW.out _).mono ?_);rintro en w1 ⟨rfl,rfl⟩;go_wp2;go_ret;exact ⟨ja1 Hq.out,HB.out⟩
  · have e1:(k==1)=false:=beq_eq_false_iff_ne.2 (by omega);have e6:(k==6)=false:=beq_eq_false_iff_ne.2 (by omega);have e7:(k==7)=false:=beq_eq_false_iff_ne.2 (by omega);by_cases h2:k=2
    · subst h2;have Hq:=jj (show kw=q by rw[←hk,←hq,form2]);clear hq hd hal had hk hco hmk hname e1 e6 e7;go_enter Tryz.func157,Tryz.ntmps157;go_wp2;go_ret;exact ⟨ja1 Hq.out,HB.out⟩
    · have e2:(k==2)=false:=beq_eq_false_iff_ne.2 h2;clear hl;by_cases h3:k=3
      · subst h3;rw[form3] at hq;have hz:=is_zero s;rw[hd] at hz;clear hname e1 e6 e7 e2 h2;by_cases h0:s.size=0
        · obtain rfl:=jly h0;have Hq:=jj (show false=q by rw[←hq,←hd];rfl);clear hq hd hal had hk hco hmk h0 hz;go_enter Tryz.func157,Tryz.ntmps157;go_wp2;go_ret;exact ⟨ja1 Hq.out,HB.out⟩
        · (have hpos:0<s.size:=by omega);have hh:=jl3 hpos;rw[hd] at hh;have hne:=jk2 s hpos;obtain ⟨z,hzz⟩:=jx ((d==[48]));rw[hzz] at hz;have h48:(((s[0]).toNat:Int)==48)=(s[0]==48):=je9 (by decide);obtain ⟨y,hy⟩:=jx ((s[0]==48));rw[hy] at h48
          have Hq:=jj (show (z||(!y&&ad))=q by
            rw[←hq,hzz,had,hh]
            simp[hy])
          clear hq hd hal had hk hco hmk h0 hh hzz hy
          cases z with
          | true =>
            go_enter Tryz.func157,Tryz.ntmps157;go_wp2;go_ret;exact ⟨ja1 Hq.out,HB.out⟩
          | false =>
            cases y with
            | true =>
              (have h48':(((s[0]).toNat:Int) != 48)=false:=by unfold bne;rw[h48];rfl);go_enter Tryz.func157,Tryz.ntmps157;go_wp2;go_ret;exact ⟨ja1 Hq.out,HB.out⟩
            | false =>
              (have h48':(((s[0]).toNat:Int) != 48)=true:=by unfold bne;rw[h48];rfl);go_enter Tryz.func157,Tryz.ntmps157;go_wp2_with fail;(with_reducible refine (HD.out _).mono ?_);rintro en w1 ⟨rfl,rfl⟩;go_wp2;go_ret;exact ⟨ja1 Hq.out,HB.out⟩
      · have e3:(k==3)=false:=beq_eq_false_iff_ne.2 h3;by_cases h4:k=4
        · subst h4;have Hq:=jj (show co=q by rw[←hco,←hq,form4]);clear hq hd hal had hk hco hmk hname e1 e6 e7 e2 h2 e3 h3;go_enter Tryz.func157,Tryz.ntmps157;go_wp2_with fail;(with_reducible refine (HK.out _).mono ?_);rintro en w1 ⟨rfl,rfl⟩;go_wp2;go_ret;exact ⟨ja1 Hq.out,HB.out⟩
        · have e4:(k==4)=false:=beq_eq_false_iff_ne.2 h4;by_cases h5:k=5
          · subst h5;have Hq:=jj (show mk=q by rw[←hmk,←hq,form5]);clear hq hd hal had hk hco hmk hname e1 e6 e7 e2 h2 e3 h3 e4 h4;go_enter Tryz.func157,Tryz.ntmps157;go_wp2_with fail;(with_reducible refine (HM.out _).mono ?_);rintro en w1 ⟨rfl,rfl⟩;go_wp2;go_ret;exact ⟨ja1 Hq.out,HB.out⟩
          · have e5:(k==5)=false:=beq_eq_false_iff_ne.2 h5
            have Hq:=jj (show false=q by
              rw[←hq];unfold jgq
              rw[if_neg hname,if_neg h2,if_neg h3,if_neg h4,if_neg h5])
            clear hq hd hal had hk hco hmk hname h2 h3 h4 h5;go_enter Tryz.func157,Tryz.ntmps157;go_wp2;go_ret;exact ⟨ja1 Hq.out,HB.out⟩
end
end Go.Proofs.YtonoklmobocikaaGreatDoor
