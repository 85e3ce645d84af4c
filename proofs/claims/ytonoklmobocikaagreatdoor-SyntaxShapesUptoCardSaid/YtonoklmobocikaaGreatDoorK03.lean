/- Lemmas. -/
import Derived.Maps.OwnOps
import Derived.Maps.OwnSet
import Derived.Maps.Ext
import Derived.StringKeys
import Derived.Test.YtonoklmobocikaaGreatDoorK02
set_option linter.unusedVariables false
set_option linter.unusedSimpArgs false
set_option maxRecDepth 20000
set_option maxHeartbeats 6400000
namespace Go.Proofs.YtonoklmobocikaaGreatDoor
section
def tk1 (k:Int) (x:List UInt8):Tk:=⟨k,x,0,0⟩
def jc9 (a b:Option (List Tk)):Option (List Tk):=match a with | none=>none | some u=>match b with | none=>none | some v=>some (u++v)
def okO (o:Option (List Tk)):Bool:=match o with | none=>false | some u=>jad u
theorem allRight_app (u v:List Tk):jad (u++v)=(jad u&&jad v):=by unfold jad;rw[List.all_append]
theorem jfk (a b:Option (List Tk)):okO (jc9 a b)=(okO a&&okO b):=by
  cases a with
  | none=>rfl
  | some u =>
    cases b with
    | none=>show false=(jad u&&false);simp
    | some v=>exact allRight_app u v
def jja (x:List UInt8):List Tk :=
  let a:=x.takeWhile (· != 46)
  if a.length=x.length then [tk1 1 x] else [tk1 1 a,tk1 1 (x.drop (a.length+1))]
theorem jn1:jad []=true:=rfl
theorem jdc (k:Int) (x:List UInt8):jad [tk1 k x]=jb8 k x:=by
  unfold jad tk1;rw[List.all_cons,List.all_nil,Bool.and_true]
theorem allRight_2 (k q:Int) (x y:List UInt8):jad [tk1 k x,tk1 q y]=(jb8 k x&&jb8 q y):=by
  unfold jad tk1;rw[List.all_cons,List.all_cons,List.all_nil,Bool.and_true]
theorem typT_ok (x:List UInt8):jad (jja x)=jf5 x:=by
  unfold jja jf5;dsimp only;split
  · exact jdc 1 x
  · exact allRight_2 1 1 _ _
theorem beqL (x y:List UInt8):(x==y)=decide (x=y):=by
  by_cases h:x=y
  · rw[decide_eq_true h,h];simp
  · rw[decide_eq_false h];exact beq_eq_false_iff_ne.2 h
theorem beqI (x y:Int):(x==y)=decide (x=y):=by
  by_cases h:x=y
  · rw[decide_eq_true h,h];simp
  · rw[decide_eq_false h];exact beq_eq_false_iff_ne.2 h
theorem isE (x:List UInt8):x.isEmpty=decide (x=[]):=by cases x<;>simp
def jmk (most:Option Nat) (n:Nat):Bool:=match most with | none=>true | some m=>decide (n≤m)
mutual
def shO:Nd→Wh→Option (List Tk)
  | .mk k x _ _ l,w =>
    match w with
    | .lst w least most=>if k=24∧x=[]∧least≤l.length∧jmk most l.length=true then shL l w else none
    | .typ | .types=>if k=8∧l.length=0 then some (jja x) else none
    | .param=>if k=7 then jc9 (some [tk1 1 x]) (shW l [.typ]) else none
    | .block=>if k=9∧x=[] then shL l .stmt else none
    | .stmt =>
      if k=6 then jc9 (some [tk1 1 x]) (shW l [.typ,.lst .expr 0 (some 1)])
      else if k=9 then (if x=[] then shL l .stmt else none)
      else if k=10 then (if x=[]∧l.length≤1 then shL l .expr else none)
      else if k=11 then (if x=[] then shW l [.expr,.block,.lst .block 0 (some 1)] else none)
      else if k=12 then (if x=[] then shW l [.expr,.block] else none)
      else if k=13 then (if x=[] then shW l [.expr,.expr] else none)
      else if k=14 then (if x=[] then shW l [.expr] else none)
      else none
    | .decl =>
      if k=3 then jc9 (some [tk1 1 x]) (shW l [.lst .typ 0 (some 1),.lst .types 0 none,.lst .member 0 none])
      else if k=4 then jc9 (some [tk1 1 x]) (shW l [.lst .types 0 none,.lst .sig 0 none])
      else if k=6 then jc9 (some [tk1 1 x]) (shW l [.typ,.lst .expr 0 (some 1)])
      else if k=5 then jc9 (some [tk1 1 x]) (shW l [.lst .param 0 none,.lst .typ 0 (some 1),.lst .block 1 (some 1)])
      else none
    | .member =>
      if k=6 then jc9 (some [tk1 1 x]) (shW l [.typ,.lst .expr 0 (some 1)])
      else if k=5 then jc9 (some [tk1 1 x]) (shW l [.lst .param 0 none,.lst .typ 0 (some 1),.lst .block 1 (some 1)])
      else none
    | .sig=>if k=5 then jc9 (some [tk1 1 x]) (shW l [.lst .param 0 none,.lst .typ 0 (some 1),.lst .block 0 (some 0)]) else none
    | .expr | .arg =>
      if k=15 then (if l.length=0 then some [tk1 1 x] else none)
      else if k=16 then (if l.length=0 then some [tk1 3 x] else none)
      else if k=17 then (if l.length=0 then some [tk1 4 x] else none)
      else if k=18 then (if jdu x=true∧l.length=0 then some [] else none)
      else if k=19 then jc9 (some [tk1 1 x]) (shW l [.expr])
      else if k=20 then (if x=[]∧1≤l.length then shL l .expr else none)
      else if k=21 then jc9 (some (jja x)) (shL l .expr)
      else if k=22 then (if (x=[33]∨x=[45])∧l.length=1 then shL l .expr else none)
      else if k=23 then (if opOk x=true∧l.length=2 then shL l .expr else none)
      else none
def shL:List Nd→Wh→Option (List Tk)
  | [],_=>some []
  | n :: l,w=>jc9 (shO n w) (shL l w)
def shW:List Nd→List Wh→Option (List Tk)
  | [],[]=>some []
  | n :: l,w :: ws=>jc9 (shO n w) (shW l ws)
  | _,_=>none
end
theorem fitL_arg:∀l:List Nd,jcs false l .arg=jcs false l .expr
  | []=>by rw[jdg,jdg]
  | n :: l=>by rw[je6,je6,jnv,fitL_arg l]
theorem jg1 {c:Prop} [Decidable c] {a:Option (List Tk)}:okO (if c then a else none)=(decide c&&okO a):=by
  by_cases h:c
  · rw[if_pos h,decide_eq_true h,Bool.true_and]
  · rw[if_neg h,decide_eq_false h,Bool.false_and];try rfl
theorem fitC_is (l:List Nd):jic false l=(decide (1≤l.length)&&jcs false l .expr):=by
  cases l with
  | nil=>rw[jic];simp
  | cons n l=>rw[jic,je6,fitL_arg];simp
theorem fitW_1 (l:List Nd) (w:Wh):je1 false l [w]=(decide (l.length=1)&&jcs false l w):=by
  match l with
  | []=>rw[je1]<;>simp
  | [n]=>rw[je1,je1,je6,jdg];simp
  | a :: b :: l=>rw[je1,je1]<;>simp
theorem fitW_2 (l:List Nd) (w:Wh):je1 false l [w,w]=(decide (l.length=2)&&jcs false l w):=by
  match l with
  | []=>rw[je1]<;>simp
  | [n]=>rw[je1,je1]<;>simp
  | [a,b]=>rw[je1,je1,je1,je6,je6,jdg];simp
  | a :: b :: c :: l=>rw[je1,je1,je1]<;>simp
theorem fit_14 (n:Nd) (l:List Nd):((match n :: l with | []=>false | n :: _=>n.kind != 25)&&je1 false (n :: l) [.expr])=je1 false (n :: l) [.expr]:=by
  cases h:je1 false (n :: l) [.expr] with
  | false=>simp
  | true =>
    rw[je1] at h;simp only[Bool.and_eq_true] at h;have:=fit_kind h.1;simp[this]
theorem fit_shE (k a e:Int) (x:List UInt8) (l:List Nd) (hL:∀w,jcs false l w=okO (shL l w)) (hW:∀ws,je1 false l ws=okO (shW l ws)):jat false (.mk k x a e l) .expr=okO (shO (.mk k x a e l) .expr):=by
  unfold jat shO;by_cases hk:k=25∨k=26
  · (have n15:¬k=15:=by omega);(have n16:¬k=16:=by omega);(have n17:¬k=17:=by omega);(have n18:¬k=18:=by omega);(have n19:¬k=19:=by omega);(have n20:¬k=20:=by omega);(have n21:¬k=21:=by omega);(have n22:¬k=22:=by omega);(have n23:¬k=23:=by omega);simp[hk,n15,n16,n17,n18,n19,n20,n21,n22,n23,okO]
  simp only[if_neg hk];by_cases h15:k=15
  · rw[if_pos h15,if_pos h15,jg1];cases l<;>simp[okO,jdc,jcn]
  rw[if_neg h15,if_neg h15];by_cases h16:k=16
  · rw[if_pos h16,if_pos h16,jg1];cases l<;>simp[okO,jdc,jcn]
  rw[if_neg h16,if_neg h16];by_cases h17:k=17
  · rw[if_pos h17,if_pos h17,jg1];cases l<;>simp[okO,jdc,jcn]
  rw[if_neg h17,if_neg h17];by_cases h18:k=18
  · rw[if_pos h18,if_pos h18,jg1];cases l<;>simp[okO,jn1]
  rw[if_neg h18,if_neg h18];by_cases h19:k=19
  · rw[if_pos h19,if_pos h19,jfk,←hW];simp[okO,jdc,jcn]
  rw[if_neg h19,if_neg h19];by_cases h20:k=20
  · rw[if_pos h20,if_pos h20,jg1,←hL,fitC_is];simp[beqL,beqI,isE,jcn,Bool.and_assoc]
  rw[if_neg h20,if_neg h20];by_cases h21:k=21
  · rw[if_pos h21,if_pos h21,jfk,←hL,fitL_arg];simp[okO,typT_ok]
  rw[if_neg h21,if_neg h21];by_cases h22:k=22
  · rw[if_pos h22,if_pos h22,jg1,←hL,fitW_1];simp[beqL,beqI,isE,jcn,Bool.and_assoc]
  rw[if_neg h22,if_neg h22];by_cases h23:k=23
  · rw[if_pos h23,if_pos h23,jg1,←hL,fitW_2];simp[beqL,beqI,isE,jcn,Bool.and_assoc]
  · rw[if_neg h23,if_neg h23];try rfl
mutual
theorem fit_sh:∀(n:Nd) (w:Wh),jat false n w=okO (shO n w)
  | .mk k x a e l,w=>by
    have hL:=fun w=>fit_shL l w
    have hW:=fun ws=>fit_shW l ws
    have hmeta:(k=25∨k=26)→¬k=24→okO (shO (.mk k x a e l) w)=false:=by
      intro hk h24;unfold shO;(have n3:¬k=3:=by omega);(have n4:¬k=4:=by omega);(have n5:¬k=5:=by omega);(have n6:¬k=6:=by omega);(have n7:¬k=7:=by omega);(have n8:¬k=8:=by omega);(have n9:¬k=9:=by omega);(have n10:¬k=10:=by omega);(have n11:¬k=11:=by omega);(have n12:¬k=12:=by omega);(have n13:¬k=13:=by omega);(have n14:¬k=14:=by omega);(have n15:¬k=15:=by omega);(have n16:¬k=16:=by omega);(have n17:¬k=17:=by omega);(have n18:¬k=18:=by omega);(have n19:¬k=19:=by omega);(have n20:¬k=20:=by omega);(have n21:¬k=21:=by omega);(have n22:¬k=22:=by omega);(have n23:¬k=23:=by omega);cases w<;>simp[h24,n3,n4,n5,n6,n7,n8,n9,n10,n11,n12,n13,n14,n15,n16,n17,n18,n19,n20,n21,n22,n23,okO]
    cases w with
    | lst w least most =>
      unfold jat shO;rw[jg1,←hL]
      cases most with
      | none=>simp[beqL,beqI,isE,jcn,jmk,Bool.and_assoc,Bool.and_comm,Bool.and_left_comm]
      | some m=>simp[beqL,beqI,isE,jcn,jmk,Bool.and_assoc,Bool.and_comm,Bool.and_left_comm]
    | typ =>
      by_cases hk:k=25∨k=26
      · rw[hmeta hk (by omega)];simp[jat,hk]
      · unfold jat shO;rw[jg1];simp only[if_neg hk,okO,typT_ok,Bool.and_assoc];cases l<;>simp[beqI]
    | types =>
      by_cases hk:k=25∨k=26
      · rw[hmeta hk (by omega)];simp[jat,hk]
      · unfold jat shO;rw[jg1];simp only[if_neg hk,okO,typT_ok];cases l<;>simp[beqI]
    | param =>
      by_cases hk:k=25∨k=26
      · rw[hmeta hk (by omega)];simp[jat,hk]
      · unfold jat shO;rw[jg1,jfk,←hW];simp only[if_neg hk,okO,jdc];simp[beqL,beqI,isE,jcn,Bool.and_assoc]
    | block =>
      by_cases hk:k=25∨k=26
      · rw[hmeta hk (by omega)];simp[jat,hk]
      · unfold jat shO;rw[jg1,←hL];simp only[if_neg hk];simp[beqL,beqI,isE,jcn,Bool.and_assoc]
    | stmt =>
      by_cases hk:k=25∨k=26
      · rw[hmeta hk (by omega)];simp[jat,hk]
      · unfold jat shO;simp only[if_neg hk];by_cases h6:k=6
        · rw[if_pos h6,if_pos h6,jfk,←hW];simp[okO,jdc,jcn]
        rw[if_neg h6,if_neg h6];by_cases h9:k=9
        · rw[if_pos h9,if_pos h9,jg1,←hL];simp[beqL,beqI,isE,jcn]
        rw[if_neg h9,if_neg h9];by_cases h10:k=10
        · rw[if_pos h10,if_pos h10,jg1,←hL];simp[beqL,beqI,isE,jcn,Bool.and_assoc]
        rw[if_neg h10,if_neg h10];by_cases h11:k=11
        · rw[if_pos h11,if_pos h11,jg1,←hW];simp[beqL,beqI,isE,jcn]
        rw[if_neg h11,if_neg h11];by_cases h12:k=12
        · rw[if_pos h12,if_pos h12,jg1,←hW];simp[beqL,beqI,isE,jcn]
        rw[if_neg h12,if_neg h12];by_cases h13:k=13
        · rw[if_pos h13,if_pos h13,jg1,←hW];simp[beqL,beqI,isE,jcn]
        rw[if_neg h13,if_neg h13];by_cases h14:k=14
        · rw[if_pos h14,if_pos h14,jg1,←hW]
          cases l with
          | nil=>rw[je1]<;>simp
          | cons n l=>rw[fit_14];simp[beqL,beqI,isE,jcn]
        · rw[if_neg h14,if_neg h14];simp[okO]
    | decl =>
      by_cases hk:k=25∨k=26
      · rw[hmeta hk (by omega)];simp[jat,hk]
      · unfold jat shO;simp only[if_neg hk];by_cases h3:k=3
        · (have h6:¬k=6:=by omega);(have h5:¬k=5:=by omega);rw[if_neg h6,if_neg h5,if_pos h3,if_pos h3,jfk,←hW];simp[okO,jdc,jcn]
        by_cases h4:k=4
        · (have h6:¬k=6:=by omega);(have h5:¬k=5:=by omega);rw[if_neg h6,if_neg h5,if_neg h3,if_neg h3,if_pos h4,if_pos h4,jfk,←hW];simp[okO,jdc,jcn]
        by_cases h6:k=6
        · rw[if_pos h6,if_neg h3,if_neg h4,if_pos h6,jfk,←hW];simp[okO,jdc,jcn]
        by_cases h5:k=5
        · rw[if_neg h6,if_pos h5,if_neg h3,if_neg h4,if_neg h6,if_pos h5,jfk,←hW];simp[okO,jdc,jcn]
        · simp[h3,h4,h5,h6,okO]
    | member =>
      by_cases hk:k=25∨k=26
      · rw[hmeta hk (by omega)];simp[jat,hk]
      · unfold jat shO;simp only[if_neg hk];by_cases h6:k=6
        · rw[if_pos h6,if_pos h6,jfk,←hW];simp[okO,jdc,jcn]
        by_cases h5:k=5
        · rw[if_neg h6,if_pos h5,if_neg h6,if_pos h5,jfk,←hW];simp[okO,jdc,jcn]
        · simp[h5,h6,okO]
    | sig =>
      by_cases hk:k=25∨k=26
      · rw[hmeta hk (by omega)];simp[jat,hk]
      · unfold jat shO;simp only[if_neg hk];by_cases h5:k=5
        · rw[if_neg (show ¬k=6 by omega),if_pos h5,if_pos h5,jfk,←hW];simp[okO,jdc,jcn]
        · simp[h5,okO]
    | expr=>exact fit_shE k a e x l hL hW
    | arg =>
      rw[jnv,fit_shE k a e x l hL hW];unfold shO;rfl
theorem fit_shL:∀(l:List Nd) (w:Wh),jcs false l w=okO (shL l w)
  | [],w=>by rw[jdg,shL];try rfl
  | n :: l,w=>by rw[je6,shL,jfk,fit_sh n w,fit_shL l w]
theorem fit_shW:∀(l:List Nd) (ws:List Wh),je1 false l ws=okO (shW l ws)
  | [],[]=>by rw[je1,shW];try rfl
  | n :: l,w :: ws=>by rw[je1,shW,jfk,fit_sh n w,fit_shW l ws]
  | [],w :: ws=>by rw[je1,shW]<;>simp[okO]
  | n :: l,[]=>by rw[je1,shW]<;>simp[okO]
end
end
section
open Go.RowKit
theorem jg6 {a b:ByteArray} (h:a=b):Ending.returned (.string a)=.returned (.string b):=by rw[h]
theorem beq95 (c:UInt8):((c.toNat:Int)==95)=(c==95):=je9 (by decide)
theorem beq10 (c:UInt8):((c.toNat:Int)==10)=(c==10):=je9 (by decide)
theorem pdigit (c:UInt8) (w:World):Calls Tryz.prog 103 #[.int .u8 (c.toNat:Int)] w fun e w'=>e=.returned (.bool (dgB c))∧w=w':=by
  have hc:=jgc c
  by_cases h1:48≤c.toNat<;>by_cases h2:c.toNat≤57<;>
  first
  | (exfalso;omega)
  | (have Hq:=jj (show dgB c=(decide (48≤c.toNat)&&decide (c.toNat≤57)) from rfl)
     go_enter Tryz.func103,Tryz.ntmps103;go_wp2;go_ret
     exact ⟨ja1 (by rw[Hq.out];simp[h1,h2]<;>omega),rfl⟩)
theorem pvisible (c:UInt8) (w:World):Calls Tryz.prog 199 #[.int .u8 (c.toNat:Int)] w fun e w'=>e=.returned (.bool (visB c))∧w=w':=by
  have hc:=jgc c
  by_cases h1:32≤c.toNat<;>by_cases h2:c.toNat≤126<;>
  first
  | (exfalso;omega)
  | (have Hq:=jj (show visB c=(decide (32≤c.toNat)&&decide (c.toNat≤126)) from rfl)
     go_enter Tryz.func199,Tryz.ntmps199;go_wp2;go_ret
     exact ⟨ja1 (by rw[Hq.out];simp[h1,h2]<;>omega),rfl⟩)
theorem pcontent (c:UInt8) (w:World):Calls Tryz.prog 198 #[.int .u8 (c.toNat:Int)] w fun e w'=>e=.returned (.bool (jkq c))∧w=w':=by
  have hc:=jgc c;have h10:=beq10 c;obtain ⟨q,hq⟩:=jx ((c==10));rw[hq] at h10;have Hq:=jj (show jkq c=(q||visB c) by unfold jkq;rw[hq]);clear hq;have HC:=jj (pvisible c w);obtain ⟨v,hv⟩:=jx (visB c);rw[hv] at Hq HC;clear hv;cases q
  · go_enter Tryz.func198,Tryz.ntmps198;go_wp2_with fail;(with_reducible refine HC.out.mono ?_);rintro e w1 ⟨rfl,rfl⟩;go_wp2;go_ret;exact ⟨ja1 (by rw[Hq.out];rfl),rfl⟩
  · go_enter Tryz.func198,Tryz.ntmps198;go_wp2;go_ret;exact ⟨ja1 (by rw[Hq.out];rfl),rfl⟩
theorem pword (c:UInt8) (w:World):Calls Tryz.prog 106 #[.int .u8 (c.toNat:Int)] w fun e w'=>e=.returned (.bool (wdB c))∧w=w':=by
  have hc:=jgc c;have h95:=beq95 c;obtain ⟨q,hq⟩:=jx ((c==95));rw[hq] at h95;have HC:=jj (pdigit c w);obtain ⟨v,hv⟩:=jx (dgB c);rw[hv] at HC;have Hq:=jj (show wdB c=((decide (65≤c.toNat)&&decide (c.toNat≤90))||(decide (97≤c.toNat)&&decide (c.toNat≤122))||q||v) by unfold wdB ltB;rw[hq,hv]);clear hv hq;by_cases hA:97≤c.toNat∧c.toNat≤122
  · obtain ⟨h1,h2⟩:=hA;go_enter Tryz.func106,Tryz.ntmps106;go_wp2;go_ret;exact ⟨ja1 (by rw[Hq.out];simp[h1,h2]<;>omega),rfl⟩
  · by_cases hB:65≤c.toNat∧c.toNat≤90
    · obtain ⟨h1,h2⟩:=hB;(have h3:¬97≤c.toNat:=by omega);go_enter Tryz.func106,Tryz.ntmps106;go_wp2;go_ret;exact ⟨ja1 (by rw[Hq.out];simp[h1,h2]<;>omega),rfl⟩
    · have HA:=jj (show (decide (97≤c.toNat)&&decide (c.toNat≤122))=false by simp;omega);have HB:=jj (show (decide (65≤c.toNat)&&decide (c.toNat≤90))=false by simp;omega);cases q
      · by_cases h1:97≤c.toNat
        · (have h2:¬c.toNat≤122:=by omega);(have h3:¬c.toNat≤90:=by omega);(have h4:65≤c.toNat:=by omega);clear hA hB;go_enter Tryz.func106,Tryz.ntmps106;go_wp2_with fail;(with_reducible refine HC.out.mono ?_);rintro e w1 ⟨rfl,rfl⟩;go_wp2;go_ret;exact ⟨ja1 (by rw[Hq.out,HA.out,HB.out];simp[show ¬(c.toNat:Int)≤122 by omega,show ¬(c.toNat:Int)≤90 by omega]),rfl⟩
        · by_cases h4:65≤c.toNat
          · (have h3:¬c.toNat≤90:=by omega);clear hA hB;go_enter Tryz.func106,Tryz.ntmps106;go_wp2_with fail;(with_reducible refine HC.out.mono ?_);rintro e w1 ⟨rfl,rfl⟩;go_wp2;go_ret;exact ⟨ja1 (by rw[Hq.out,HA.out,HB.out];simp[show ¬(c.toNat:Int)≤90 by omega]),rfl⟩
          · clear hA hB;go_enter Tryz.func106,Tryz.ntmps106;go_wp2_with fail;(with_reducible refine HC.out.mono ?_);rintro e w1 ⟨rfl,rfl⟩;go_wp2;go_ret;exact ⟨ja1 (by rw[Hq.out,HA.out,HB.out];simp),rfl⟩
      · by_cases h1:97≤c.toNat
        · (have h2:¬c.toNat≤122:=by omega);(have h3:¬c.toNat≤90:=by omega);(have h4:65≤c.toNat:=by omega);clear hA hB;go_enter Tryz.func106,Tryz.ntmps106;go_wp2;go_ret;exact ⟨ja1 (by rw[Hq.out,HA.out,HB.out];simp),rfl⟩
        · by_cases h4:65≤c.toNat
          · (have h3:¬c.toNat≤90:=by omega);clear hA hB;go_enter Tryz.func106,Tryz.ntmps106;go_wp2;go_ret;exact ⟨ja1 (by rw[Hq.out,HA.out,HB.out];simp),rfl⟩
          · clear hA hB;go_enter Tryz.func106,Tryz.ntmps106;go_wp2;go_ret;exact ⟨ja1 (by rw[Hq.out,HA.out,HB.out];simp),rfl⟩
theorem run_digit (xs:Array Value) (W:World):(callFunc 103 xs).run Tryz.prog W=.ok (.enter 103 xs) W:=by kernel_rfl
theorem run_word (xs:Array Value) (W:World):(callFunc 106 xs).run Tryz.prog W=.ok (.enter 106 xs) W:=by kernel_rfl
theorem run_content (xs:Array Value) (W:World):(callFunc 198 xs).run Tryz.prog W=.ok (.enter 198 xs) W:=by kernel_rfl
theorem jcp {s:ByteArray} {m:Nat} (h:m<s.size):s.data.toList.drop m=s[m] :: s.data.toList.drop (m+1):=by
  rw[List.drop_eq_getElem_cons (by simpa using h)];try rfl
theorem tw_at (p:UInt8→Bool) (d:List UInt8) (k:Nat) (h:(d.take k).all p=true) (hk:d.drop k=[]∨∃c x,d.drop k=c :: x∧p c=false):d.takeWhile p=d.take k:=by
  have:=tw_app (p:=p) (d.take k) (d.drop k) h (fun c hc=>by
    rcases hk with hk | ⟨c',x,hk,hp⟩
    · rw[hk] at hc;cases hc
    · rw[hk] at hc;injection hc with hc;subst hc;exact hp)
  rwa [List.take_append_drop] at this
theorem jec {p:UInt8→Bool} {s:ByteArray} {k:Nat} (h:(s.data.toList.take k).all p=true) (hk:k<s.size) (hp:p s[k]=true):(s.data.toList.take (k+1)).all p=true:=by
  rw[List.take_succ_eq_append_getElem (by simpa using hk),List.all_append,h];simp only[List.all_cons,List.all_nil,Bool.and_true,Bool.true_and];exact hp
theorem jnh (N:Nat) (p:UInt8→Bool) (s:ByteArray) (w:World) (hs:s.size≤9223372036854775807)
    (hcf:∀(xs:Array Value) (W:World),(callFunc N xs).run Tryz.prog W=.ok (.enter N xs) W)
    (hp:∀(c:UInt8) (W:World),Calls Tryz.prog N #[.int .u8 (c.toNat:Int)] W fun e w'=>e=.returned (.bool (p c))∧W=w') :
    Calls Tryz.prog 105 #[.string s,.func (.func N) #[] #[]] w fun e w'=>e=.returned (.string (bs (s.data.toList.takeWhile p)))∧w=w':=by
  have Hp:=jj hp;clear hp;go_enter Tryz.func105,Tryz.ntmps105;go_wp2
  go_loopw [8] (fun y wr=>∃k:Nat,k≤s.size∧y=.int .i64 (k:Int)∧(s.data.toList.take k).all p=true∧wr=w) (fun y _=>s.size - (intOf y).toNat)
  case atStart=>exact ⟨0,Nat.zero_le _,rfl,rfl,rfl⟩
  case round =>
    obtain ⟨k,hk,rfl,hm,rfl⟩:=hrel;by_cases hlt:k<s.size
    · have HC:=jj (Hp.out s[k] wr);have hd:=jcp hlt
      cases hpr:p s[k] with
      | true =>
        have Hn:=jj (jec hm hlt hpr);rw[hpr] at HC;clear hm hpr hd;go_wp2_with fail;(with_reducible refine HC.out.mono ?_);rintro e w3 ⟨rfl,rfl⟩;go_wp2;go_roundw
        case rel=>exact ⟨k+1,by omega,by go_num,Hn.out,trivial⟩
        case measure=>simp[intOf];omega
      | false =>
        have Hn:=jj (tw_at p s.data.toList k hm (Or.inr ⟨_,_,hd,hpr⟩));rw[hpr] at HC;clear hm hpr hd;go_wp2_with fail;(with_reducible refine HC.out.mono ?_);rintro e w3 ⟨rfl,rfl⟩;go_wp2;go_ret;exact ⟨jg6 (by rw[Hn.out,jl5]),rfl⟩
    · have hk':k=s.size:=by omega
      have Hn:=jj (show s.data.toList.takeWhile p=s.data.toList by
        rw[hk',List.take_of_length_le (by simp)] at hm;have:=tw_app (p:=p) s.data.toList [] hm (fun c h=>by cases h)
        rwa [List.append_nil] at this)
      clear hm;go_wp2;go_ret;exact ⟨jg6 (by rw[Hn.out,jj9]),rfl⟩
end
section
open Go.RowKit
theorem pismark (s:ByteArray) (q:Bool) (hq:jim s.data.toList=q) (w:World):Calls Tryz.prog 162 #[.string s] w fun e w'=>e=.returned (.bool q)∧w=w':=by
  have Hq:=jj hq;clear hq;go_enter Tryz.func162,Tryz.ntmps162;go_wp2
  all_goals
    go_ret;refine ⟨ja1 ?_,rfl⟩;rw[←Hq.out];clear Hq;simp only[Lib.toList_data] at *;simp_all [jim,mkL]
def jhs (l:List (List UInt8)):List Value:=l.map fun t=>.string (bs t)
theorem jgt (l:List (List UInt8)):(jhs l).length=l.length:=by simp[jhs]
theorem strs_app (l m:List (List UInt8)):jhs (l++m)=jhs l++jhs m:=by simp[jhs]
theorem strs_cell {w:World} {B n:Nat} {A:Option Addr} {l:List (List UInt8)} (h:Reads w B A n (jhs l)) {k:Nat} (hk:k<n):∃ad z,A=some ad∧l[k]?=some z∧w.cell? (ad.add k)=some (.string (bs z)):=by
  obtain ⟨ad,u,hA,_,hu,hc⟩:=h.at_ hk;unfold jhs at hu;rw[List.getElem?_map] at hu
  cases hl:l[k]? with
  | none=>rw[hl] at hu;cases hu
  | some z =>
    rw[hl] at hu;injection hu with hu;subst hu;exact ⟨ad,z,hA,rfl,hc⟩
theorem str_beq (z:List UInt8) (s:ByteArray):((bs z).toList==s.toList)=(z==s.data.toList):=by rw[Lib.toList_data,Lib.toList_data,jac]
theorem take_has {l:List (List UInt8)} {k:Nat} {z d:List UInt8} (h:(l.take k).contains d=false) (hk:l[k]?=some z) (hz:(z==d)=false):(l.take (k+1)).contains d=false:=by
  obtain ⟨hlt,e⟩:=List.getElem?_eq_some_iff.1 hk;rw[List.take_succ_eq_append_getElem hlt,e];(have hz':¬d=z:=fun e=>by subst e;simp at hz);have h':¬d∈l.take k:=fun hm=>by rw[List.contains_iff_mem.2 hm] at h;cases h
  cases hc:(l.take k++[z]).contains d with
  | false=>rfl
  | true =>
    have:=List.contains_iff_mem.1 hc;rw[List.mem_append] at this;rcases this with this | this
    · exact absurd this h'
    · exact absurd (by simpa using this) hz'
theorem has_at {l:List (List UInt8)} {k:Nat} {z d:List UInt8} (hk:l[k]?=some z) (hz:(z==d)=true):l.contains d=true:=by
  (have:z=d:=by simpa using hz);subst this;exact List.contains_iff_mem.2 (List.mem_of_getElem? hk)
theorem rmark (s:ByteArray) (q:Bool) (hq:jim s.data.toList=q) (w:World):Calls Tryz.prog 99 #[.string s] w fun e w'=>e=.returned (.bool q)∧Below w.heap.size w w':=by
  have Hq:=jj hq;clear hq;have hsl:=lit_sl w #[.string ⟨#[123]⟩,.string ⟨#[125]⟩,.string ⟨#[40]⟩,.string ⟨#[41]⟩,.string ⟨#[59]⟩,.string ⟨#[44]⟩,.string ⟨#[58]⟩,.string ⟨#[46]⟩,.string ⟨#[61]⟩,.string ⟨#[61,61]⟩,.string ⟨#[33,61]⟩,.string ⟨#[60]⟩,.string ⟨#[62]⟩,.string ⟨#[43]⟩,.string ⟨#[45]⟩,.string ⟨#[42]⟩,.string ⟨#[47]⟩,.string ⟨#[37]⟩,.string ⟨#[33]⟩,.string ⟨#[38,38]⟩,.string ⟨#[124,124]⟩] 9 (jhs mkL) 21 rfl rfl (by decide);have hb:=jak (Below.refl w.heap.size w) (.cells #[.string ⟨#[123]⟩,.string ⟨#[125]⟩,.string ⟨#[40]⟩,.string ⟨#[41]⟩,.string ⟨#[59]⟩,.string ⟨#[44]⟩,.string ⟨#[58]⟩,.string ⟨#[46]⟩,.string ⟨#[61]⟩,.string ⟨#[61,61]⟩,.string ⟨#[33,61]⟩,.string ⟨#[60]⟩,.string ⟨#[62]⟩,.string ⟨#[43]⟩,.string ⟨#[45]⟩,.string ⟨#[42]⟩,.string ⟨#[47]⟩,.string ⟨#[37]⟩,.string ⟨#[33]⟩,.string ⟨#[38,38]⟩,.string ⟨#[124,124]⟩] 9);go_enter Tryz.func99,Tryz.ntmps99;go_wp2_with fail;generalize w.alloc (.cells #[.string ⟨#[123]⟩,.string ⟨#[125]⟩,.string ⟨#[40]⟩,.string ⟨#[41]⟩,.string ⟨#[59]⟩,.string ⟨#[44]⟩,.string ⟨#[58]⟩,.string ⟨#[46]⟩,.string ⟨#[61]⟩,.string ⟨#[61,61]⟩,.string ⟨#[33,61]⟩,.string ⟨#[60]⟩,.string ⟨#[62]⟩,.string ⟨#[43]⟩,.string ⟨#[45]⟩,.string ⟨#[42]⟩,.string ⟨#[47]⟩,.string ⟨#[37]⟩,.string ⟨#[33]⟩,.string ⟨#[38,38]⟩,.string ⟨#[124,124]⟩] 9)=W at hsl hb ⊢;generalize (⟨w.heap.size,0,none⟩:Addr)=ad0 at hsl ⊢;have H:=jj hsl;have HB:=jj hb;clear hsl hb
  go_loopw [4] (fun y wr=>∃k:Nat,k≤21∧y=.int .i64 (k:Int)∧(mkL.take k).contains s.data.toList=false∧wr=W) (fun y _=>21 - (intOf y).toNat)
  case atStart=>exact ⟨0,Nat.zero_le _,rfl,rfl,rfl⟩
  case round =>
    obtain ⟨k,hk,rfl,hm,rfl⟩:=hrel;by_cases hlt:k<21
    · obtain ⟨ad,z,hA,hz,hcell⟩:=strs_cell H.out.reads hlt;cases hA;obtain ⟨b,hbz⟩:=jx ((z==s.data.toList));have heq:((bs z).toList==s.toList)=b:=(str_beq z s).trans hbz
      cases b with
      | true =>
        have Hy:=jj (show true=q by rw[←Hq.out];exact (has_at hz hbz).symm);clear hm hz hbz;go_wp2;go_ret;exact ⟨ja1 Hy.out,HB.out⟩
      | false =>
        have Hn:=jj (take_has hm hz hbz);clear hm hz hbz;go_wp2;go_roundw
        case rel=>exact ⟨k+1,by omega,by go_num,Hn.out,trivial⟩
        case measure=>simp[intOf];omega
    · have Hy:=jj (show false=q by
        rw[←Hq.out];rw[List.take_of_length_le (by have:mkL.length=21:=rfl;omega)] at hm
        exact hm.symm)
      clear hm;go_wp2;go_ret;exact ⟨ja1 Hy.out,HB.out⟩
theorem jll (s:ByteArray) (q:Bool) (hq:jjm s.data.toList=q) (w:World):Calls Tryz.prog 91 #[.string s] w fun e w'=>e=.returned (.bool q)∧Below w.heap.size w w':=by
  have Hq:=jj hq;clear hq;have hsl:=lit_sl w #[.string ⟨#[105,109,112,111,114,116]⟩,.string ⟨#[99,108,97,115,115]⟩,.string ⟨#[105,110,116,101,114,102,97,99,101]⟩,.string ⟨#[101,120,116,101,110,100,115]⟩,.string ⟨#[105,109,112,108,101,109,101,110,116,115]⟩,.string ⟨#[102,117,110,99]⟩,.string ⟨#[118,97,114]⟩,.string ⟨#[114,101,116,117,114,110]⟩,.string ⟨#[105,102]⟩,.string ⟨#[101,108,115,101]⟩,.string ⟨#[119,104,105,108,101]⟩,.string ⟨#[110,101,119]⟩,.string ⟨#[116,114,117,101]⟩,.string ⟨#[102,97,108,115,101]⟩,.string ⟨#[110,117,108,108]⟩,.string ⟨#[116,104,105,115]⟩] 9 (jhs kwL) 16 rfl rfl (by decide);have hb:=jak (Below.refl w.heap.size w) (.cells #[.string ⟨#[105,109,112,111,114,116]⟩,.string ⟨#[99,108,97,115,115]⟩,.string ⟨#[105,110,116,101,114,102,97,99,101]⟩,.string ⟨#[101,120,116,101,110,100,115]⟩,.string ⟨#[105,109,112,108,101,109,101,110,116,115]⟩,.string ⟨#[102,117,110,99]⟩,.string ⟨#[118,97,114]⟩,.string ⟨#[114,101,116,117,114,110]⟩,.string ⟨#[105,102]⟩,.string ⟨#[101,108,115,101]⟩,.string ⟨#[119,104,105,108,101]⟩,.string ⟨#[110,101,119]⟩,.string ⟨#[116,114,117,101]⟩,.string ⟨#[102,97,108,115,101]⟩,.string ⟨#[110,117,108,108]⟩,.string ⟨#[116,104,105,115]⟩] 9);go_enter Tryz.func91,Tryz.ntmps91;go_wp2_with fail;generalize w.alloc (.cells #[.string ⟨#[105,109,112,111,114,116]⟩,.string ⟨#[99,108,97,115,115]⟩,.string ⟨#[105,110,116,101,114,102,97,99,101]⟩,.string ⟨#[101,120,116,101,110,100,115]⟩,.string ⟨#[105,109,112,108,101,109,101,110,116,115]⟩,.string ⟨#[102,117,110,99]⟩,.string ⟨#[118,97,114]⟩,.string ⟨#[114,101,116,117,114,110]⟩,.string ⟨#[105,102]⟩,.string ⟨#[101,108,115,101]⟩,.string ⟨#[119,104,105,108,101]⟩,.string ⟨#[110,101,119]⟩,.string ⟨#[116,114,117,101]⟩,.string ⟨#[102,97,108,115,101]⟩,.string ⟨#[110,117,108,108]⟩,.string ⟨#[116,104,105,115]⟩] 9)=W at hsl hb ⊢;generalize (⟨w.heap.size,0,none⟩:Addr)=ad0 at hsl ⊢;have H:=jj hsl;have HB:=jj hb;clear hsl hb
  go_loopw [4] (fun y wr=>∃k:Nat,k≤16∧y=.int .i64 (k:Int)∧(kwL.take k).contains s.data.toList=false∧wr=W) (fun y _=>16 - (intOf y).toNat)
  case atStart=>exact ⟨0,Nat.zero_le _,rfl,rfl,rfl⟩
  case round =>
    obtain ⟨k,hk,rfl,hm,rfl⟩:=hrel;by_cases hlt:k<16
    · obtain ⟨ad,z,hA,hz,hcell⟩:=strs_cell H.out.reads hlt;cases hA;obtain ⟨b,hbz⟩:=jx ((z==s.data.toList));have heq:((bs z).toList==s.toList)=b:=(str_beq z s).trans hbz
      cases b with
      | true =>
        have Hy:=jj (show true=q by rw[←Hq.out];exact (has_at hz hbz).symm);clear hm hz hbz;go_wp2;go_ret;exact ⟨ja1 Hy.out,HB.out⟩
      | false =>
        have Hn:=jj (take_has hm hz hbz);clear hm hz hbz;go_wp2;go_roundw
        case rel=>exact ⟨k+1,by omega,by go_num,Hn.out,trivial⟩
        case measure=>simp[intOf];omega
    · have Hy:=jj (show false=q by
        rw[←Hq.out];rw[List.take_of_length_le (by have:kwL.length=16:=rfl;omega)] at hm
        exact hm.symm)
      clear hm;go_wp2;go_ret;exact ⟨ja1 Hy.out,HB.out⟩
end
section
open Go.RowKit Go.Maps
def jg5 (v:Value):Option (DataW Unit × List MemPlace):=match v with
  | .bool true=>some (.lit (.bool true),[])
  | _=>none
theorem trueElem_mk:jg5 (.bool true)=some (.lit (.bool true),[]):=rfl
theorem trueElem_inv {v:Value} {z:DataW Unit × List MemPlace} (h:jg5 v=some z):v=.bool true:=by
  unfold jg5 at h;split at h
  · rfl
  · cases h
section
variable {P:Program} {k:TypeId} {w w':World} {b n:Nat} {D:DataW Unit}
theorem look_true {t e:TypeId} (h:w.ownsMap P k jg5 b n D) (K:Keyed P k) (ht:P.underlying t=some (.map k e)) (hz:(zeroValue e).run P w=.ok (.bool false) w) {key:Value} {kl:Lit} (hkey:keyOf P k key=some kl) :
    (Instr.lookup t (.map (some b)) key false).run P w=.ok (.bool (Maps.has D kl)) w:=by
  obtain ⟨es,clock,hb,F,_,rfl⟩:=h;rcases Maps.fit_look false K ht hz hb F hkey with ⟨hrun,_,hat⟩ | ⟨e0,y,_,_,hrun,hRv,hat,_⟩
  · rw[Maps.has_false_of_atKey hat];exact hrun
  · have e:=trueElem_inv hRv;rw[Maps.has_true_of_atKey hat,hrun];simp[e]
theorem mapB (h:w.ownsMap P k jg5 b n D) (hb:Below w.heap.size w w'):w'.ownsMap P k jg5 b n D:=by
  have hl:=h.lt;obtain ⟨es,clock,h1,h2⟩:=h;exact ⟨es,clock,(hb.block b hl).trans h1,h2⟩
end
def SetD {α:Type} (D:DataW Unit) (key:α→Lit) (p:α→Prop):Prop:=Tidy D∧∀x,has D (key x)=true↔p x
theorem SetD.start {α:Type} (key:α→Lit):SetD (.map []) key fun _=>False:=⟨tidy_empty,fun x=>⟨fun h=>(by cases h),fun h=>h.elim⟩⟩
theorem SetD.put {α:Type} {D:DataW Unit} {key:α→Lit} {p:α→Prop} (h:SetD D key p) (hk:∀x,WideAt.IsKeyLit (key x)) (x:α) (d:DataW Unit):SetD (D.put (key x) d) key fun y=>p y∨key y=key x:=by
  refine ⟨h.1.put (hk x) d,fun y=>?_⟩;by_cases e:key y=key x
  · exact ⟨fun _=>Or.inr e,fun _=>by rw[e];exact has_put_same h.1.isMap (hk x) d⟩
  · rw[has_put_other e,h.2];simp[e]
end
section
open Go.RowKit Go.Maps
def keyB (l:List UInt8):Lit:=.string l
theorem keyB_inj {a b:List UInt8}:keyB a=keyB b↔a=b:=⟨fun h=>by injection h,fun h=>by rw[h]⟩
theorem keyed9:Keyed Tryz.prog 9:=string_keyed Tryz.underlying9
theorem zero4 (w:World):(zeroValue 4).run Tryz.prog w=.ok (.bool false) w:=by kernel_rfl
def KwM (w:World) (b n:Nat):Prop:=∃D:DataW Unit,w.ownsMap Tryz.prog 9 jg5 b n D∧SetD D keyB (fun t=>t∈kwL.take n)
def KwD (w:World) (b:Nat):Prop:=∃(n:Nat) (D:DataW Unit),w.ownsMap Tryz.prog 9 jg5 b n D∧∀t,Maps.has D (keyB t)=jjm t
theorem KwM.made (w:World):KwM (w.alloc (.map #[] 0)) w.heap.size 0:=⟨.map [],World.ownsMap_made w Tryz.prog 9 jg5,⟨(SetD.start keyB).1,fun x=>((SetD.start keyB).2 x).trans (by simp)⟩⟩
theorem KwM.all {w:World} {b:Nat} (h:KwM w b 16):KwD w b:=by
  obtain ⟨D,h1,h2⟩:=h;refine ⟨16,D,h1,fun t=>?_⟩;rw[Bool.eq_iff_iff,h2.2];unfold jjm;rw[List.contains_iff_mem];try rfl
theorem KwD.below {w w':World} {b:Nat} (h:KwD w b) (hb:Below w.heap.size w w'):KwD w' b:=by
  obtain ⟨n,D,h1,h2⟩:=h;exact ⟨n,D,mapB h1 hb,h2⟩
theorem KwD.lt {w:World} {b:Nat} (h:KwD w b):b<w.heap.size:=by
  obtain ⟨n,D,h1,_⟩:=h;exact h1.lt
theorem KwD.look {w:World} {b:Nat} (h:KwD w b) (s:ByteArray) (hs:s.size≤maxLen):(Instr.lookup 94 (.map (some b)) (.string s) false).run Tryz.prog w=.ok (.bool (jjm s.data.toList)) w:=by
  obtain ⟨n,D,h1,h2⟩:=h;have:=look_true h1 keyed9 Tryz.underlying94 (zero4 w) (key:=.string s) (kl:=keyB s.data.toList) (by rw[Go.WideMaps.keyOf_string_mk Tryz.underlying9 hs];rfl);rw[h2] at this;exact this
section
variable {ops:Array Oper} {rest:List Oper} {o:Oper} {a:Act} {Q:Exit→Act→World→Prop}
theorem wp_kw (w:World) (b n:Nat) (s:ByteArray) (B:Nat) (hg:o.guard=none) (m x v:Operand) (hop:o.op=Op.insert 94 m x v) (hm:a.eval m=.map (some b)) (hx:a.eval x=.string s) (hv:a.eval v=.bool true)
    (h:KwM w b n) (hs:kwL[n]?=some s.data.toList) (hB:B≤b)
    (hK:∀w',KwM w' b (n+1)→Below B w w'→wpList Tryz.prog ops Q rest (a.put o.dst undef) w'):wpList Tryz.prog ops Q (o :: rest) a w:=by
  refine wpList_plain hg fun K' hK'=>?_;obtain ⟨D,h1,h2⟩:=h;have hlt:n<16:=(List.getElem?_eq_some_iff.1 hs).1
  have hsz:s.size≤maxLen:=by
    have hmem:s.data.toList∈kwL:=List.mem_of_getElem? hs;have:=(jlv _ hmem).2.2.2;rw[size_list] at this;unfold maxLen;omega
  obtain ⟨w',hrun,r1,r2⟩:=h1.update (val:=.bool true) keyed9 Tryz.underlying94 (by unfold maxLen;omega) (key:=.string s) (kl:=keyB s.data.toList) (by rw[Go.WideMaps.keyOf_string_mk Tryz.underlying9 hsz];rfl) trueElem_mk;unfold Oper.wp;simp[execOp,hop,hm,hx,hv,hrun,Result.andThen];refine hK' _ _ (hK w' ⟨_,r1,?_⟩ ?_)
  · have h3:=h2.put (fun _=>(show WideAt.IsKeyLit (keyB _) from trivial)) s.data.toList (.lit (.bool true));refine ⟨h3.1,fun y=>(h3.2 y).trans ?_⟩;show (y∈kwL.take n∨keyB y=keyB s.data.toList)↔y∈kwL.take (n+1);obtain ⟨hlt,e⟩:=List.getElem?_eq_some_iff.1 hs;rw[keyB_inj,List.take_succ_eq_append_getElem hlt,e,List.mem_append];simp
  · exact (Below.refl B w).grown r2 (by have:=h1.lt;omega) fun k hk=>(by injection hk with hk;subst hk;exact hB)
end
def KwT (w0 w:World) (n:Nat):Prop:=KwM w w0.heap.size n∧Below w0.heap.size w0 w
theorem wp_kwt {ops:Array Oper} {rest:List Oper} {o:Oper} {a:Act} {Q:Exit→Act→World→Prop} (w0 w:World) (n:Nat) (s:ByteArray) (hg:o.guard=none) (m x v:Operand) (hop:o.op=Op.insert 94 m x v) (hm:a.eval m=.map (some w0.heap.size)) (hx:a.eval x=.string s) (hv:a.eval v=.bool true)
    (h:KwT w0 w n) (hs:kwL[n]?=some s.data.toList)
    (hK:∀w',KwT w0 w' (n+1)→wpList Tryz.prog ops Q rest (a.put o.dst undef) w'):wpList Tryz.prog ops Q (o :: rest) a w :=
  wp_kw w w0.heap.size n s w0.heap.size hg m x v hop hm hx hv h.1 hs (Nat.le_refl _) fun w' h1 h2=>hK w' ⟨h1,h.2.trans h2⟩
theorem pkeywords (w:World):Calls Tryz.prog 100 #[] w fun e w'=>e=.returned (.map (some w.heap.size))∧KwD w' w.heap.size∧Below w.heap.size w w':=by
  have hm:KwT w (w.alloc (.map #[] 0)) 0:=⟨KwM.made w,jak (Below.refl w.heap.size w) (.map #[] 0)⟩;have hmm:=@run_makeMap Tryz.prog;go_enter Tryz.func100,Tryz.ntmps100
  go_wp2_with (first
    | (refine wp_kwt w _ _ _ rfl _ _ _ rfl rfl rfl rfl (by assumption) (by rfl) ?_;intro w1 h1)
    | fail)
  go_ret;exact ⟨rfl,h1.1.all,h1.2⟩
end
end Go.Proofs.YtonoklmobocikaaGreatDoor
