/- Lemmas. -/
import Derived.Test.YtonoklmobocikaaGreatDoorK54
set_option linter.unusedVariables false
set_option linter.unusedSimpArgs false
set_option maxRecDepth 20000
set_option maxHeartbeats 6400000
namespace Go.Proofs.YtonoklmobocikaaGreatDoor
section
open Go.RowKit
theorem wd_no {c:UInt8} (h:¬((48≤c.toNat∧c.toNat≤57)∨(65≤c.toNat∧c.toNat≤90)∨c.toNat=95∨(97≤c.toNat∧c.toNat≤122))):wdB c=false:=by
  have h95:(c==95)=false:=by
    rw[beq_eq_false_iff_ne];intro e;subst e;exact h (Or.inr (Or.inr (Or.inl rfl)))
  unfold wdB ltB dgB;rw[h95];simp;omega
theorem jms {c:UInt8} (h:(48≤c.toNat∧c.toNat≤57)∨(65≤c.toNat∧c.toNat≤90)∨c.toNat=95∨(97≤c.toNat∧c.toNat≤122)):wdB c=true:=by
  by_cases h5:c.toNat=95
  · have:c=95:=by
      apply UInt8.toNat_inj.1;rw[h5];try rfl
    subst this;rfl
  · unfold wdB ltB dgB;simp;omega
theorem je2 (s:ByteArray) (q:Bool) (hq:jb8 1 s.data.toList=q) (w:World) :
    Calls Tryz.prog 46 #[.string s] w fun e w'=>e=.returned (.bool q)∧Below w.heap.size w w':=by
  rw[right_name (Or.inl rfl),size_list] at hq;by_cases h0:s.size=0
  · obtain rfl:=empty_of' h0;have Hq:=jj (show false=q from hq);clear hq h0;go_enter Tryz.func46,Tryz.ntmps46;go_wp2;go_ret;exact ⟨ja1 Hq.out,Below.refl _ _⟩
  (have hpos:0<s.size:=by omega);(have hp1:(0:Int)<(s.size:Int):=by omega);have e1:decide ((s.size:Int)<1)=false:=decide_eq_false (by omega);rw[name_ways hpos] at hq;by_cases h24:s.size≤24
  case neg =>
    have hd:decide ((s.size:Int) > 24)=true:=decide_eq_true (by omega);have hd':decide ((24:Int)<(s.size:Int))=true:=decide_eq_true (by omega);have Hq:=jj (show false=q by rw[←hq,decide_eq_false h24,Bool.and_false]);clear hq h0;go_enter Tryz.func46,Tryz.ntmps46;go_wp2;go_ret;exact ⟨ja1 Hq.out,Below.refl _ _⟩
  have hd:decide ((s.size:Int) > 24)=false:=decide_eq_false (by omega);have hd':decide ((24:Int)<(s.size:Int))=false:=decide_eq_false (by omega);rw[decide_eq_true h24,Bool.and_true] at hq;have HK:=jj (fun W=>jll s _ rfl W)
  cases hk:jjm s.data.toList with
  | true =>
    rw[hk] at HK;have Hq:=jj (show false=q by rw[←hq,hk];simp);clear hq h0 hk;go_enter Tryz.func46,Tryz.ntmps46;go_wp2_with fail;(with_reducible refine (HK.out _).mono ?_);rintro e w3 ⟨rfl,hb⟩;have HB:=jj hb;clear hb;go_wp2;go_ret;exact ⟨ja1 Hq.out,HB.out⟩
  | false =>
    rw[hk] at HK hq;rw[Bool.not_false,Bool.and_true] at hq;have hbt:=jgc s[0];by_cases hdg:48≤(s[0]).toNat∧(s[0]).toNat≤57
    · obtain ⟨r1,r2⟩:=hdg
      have Hq:=jj (show false=q by
        have:ltB s[0]=false:=dg_lt (by unfold dgB;simp[r1,r2])
        rw[←hq,this];rfl)
      have z0:decide ((((s[0]).toNat:Nat):Int)≥48)=true:=decide_eq_true (by omega);have zz0:decide ((48:Int)≤(((s[0]).toNat:Nat):Int))=true:=decide_eq_true (by omega);have z1:decide ((((s[0]).toNat:Nat):Int)≤57)=true:=decide_eq_true (by omega);clear hq h0 hk;go_enter Tryz.func46,Tryz.ntmps46;go_wp2_with fail;(with_reducible refine (HK.out _).mono ?_);rintro e w3 ⟨rfl,hb⟩;have HB:=jj hb;clear hb;go_wp2;go_ret;exact ⟨ja1 Hq.out,HB.out⟩
    have Hq:=jj (show (s.data.toList.all wdB)=q by
      rw[←hq]
      cases ha:s.data.toList.all wdB with
      | false=>rw[Bool.and_false]
      | true =>
        have hh:=jnp hpos;rw[hh,List.all_cons,Bool.and_eq_true] at ha;have:ltB s[0]=true:=wd_lt ha.1 (by unfold dgB;simp;omega)
        rw[this];rfl)
    clear hq;by_cases hlo:(s[0]).toNat<48
    · have r1:=hlo;have z0:decide ((((s[0]).toNat:Nat):Int)≥48)=false:=decide_eq_false (by omega);have zz0:decide ((48:Int)≤(((s[0]).toNat:Nat):Int))=false:=decide_eq_false (by omega);have z1:decide ((((s[0]).toNat:Nat):Int)≤57)=true:=decide_eq_true (by omega);clear h0 hk hdg hlo;go_enter Tryz.func46,Tryz.ntmps46;go_wp2_with fail;(with_reducible refine (HK.out _).mono ?_);rintro e w3 ⟨rfl,hb⟩;have HB:=jj hb;clear hb;go_wp2_with fail;clear z0 zz0 z1 r1
      go_loopw [3] (fun y wr=>∃j:Nat,j≤s.size∧y=.int .i64 (j:Int)∧(s.data.toList.take j).all wdB=true∧Below w.heap.size w wr) (fun y _=>s.size - (intOf y).toNat)
      case atStart=>exact ⟨0,Nat.zero_le _,rfl,rfl,HB.out⟩
      case round =>
        obtain ⟨j,hj,rfl,hm,hb⟩:=hrel;obtain ⟨w3,hw3⟩:∃w3,w3=wr:=⟨wr,rfl⟩;subst hw3;have B3:=jj hb;by_cases hlt:j<s.size
        · (have hji:(j:Int)<(s.size:Int):=by omega);have hc:=jgc s[j];have hc0:0≤(s[j]).toNat:=Nat.zero_le _;by_cases hr0:0≤(s[j]).toNat∧(s[j]).toNat≤47
          · obtain ⟨r1,r2⟩:=hr0;have Hn:=jj (show false=q by rw[←Hq.out,jge hlt (wd_no (by omega))]);have z0:decide ((((s[j]).toNat:Nat):Int)≥97)=false:=decide_eq_false (by omega);have zz0:decide ((97:Int)≤(((s[j]).toNat:Nat):Int))=false:=decide_eq_false (by omega);have z1:decide ((((s[j]).toNat:Nat):Int)≤122)=true:=decide_eq_true (by omega);have z2:decide ((((s[j]).toNat:Nat):Int)≥65)=false:=decide_eq_false (by omega);have zz2:decide ((65:Int)≤(((s[j]).toNat:Nat):Int))=false:=decide_eq_false (by omega);have z3:decide ((((s[j]).toNat:Nat):Int)≤90)=true:=decide_eq_true (by omega);have z4:decide ((((s[j]).toNat:Nat):Int)≥48)=false:=decide_eq_false (by omega);have zz4:decide ((48:Int)≤(((s[j]).toNat:Nat):Int))=false:=decide_eq_false (by omega);have z5:decide ((((s[j]).toNat:Nat):Int)≤57)=true:=decide_eq_true (by omega);(have z6:((((s[j]).toNat:Nat):Int)==95)=false:=by rw[beq_eq_false_iff_ne];omega);clear hm hb;go_wp2;go_ret;exact ⟨ja1 Hn.out,B3.out⟩
          by_cases hr48:48≤(s[j]).toNat∧(s[j]).toNat≤57
          · obtain ⟨r1,r2⟩:=hr48;have Hn:=jj (jec hm hlt (jms (by omega)));have z0:decide ((((s[j]).toNat:Nat):Int)≥97)=false:=decide_eq_false (by omega);have zz0:decide ((97:Int)≤(((s[j]).toNat:Nat):Int))=false:=decide_eq_false (by omega);have z1:decide ((((s[j]).toNat:Nat):Int)≤122)=true:=decide_eq_true (by omega);have z2:decide ((((s[j]).toNat:Nat):Int)≥65)=false:=decide_eq_false (by omega);have zz2:decide ((65:Int)≤(((s[j]).toNat:Nat):Int))=false:=decide_eq_false (by omega);have z3:decide ((((s[j]).toNat:Nat):Int)≤90)=true:=decide_eq_true (by omega);have z4:decide ((((s[j]).toNat:Nat):Int)≥48)=true:=decide_eq_true (by omega);have zz4:decide ((48:Int)≤(((s[j]).toNat:Nat):Int))=true:=decide_eq_true (by omega);have z5:decide ((((s[j]).toNat:Nat):Int)≤57)=true:=decide_eq_true (by omega);(have z6:((((s[j]).toNat:Nat):Int)==95)=false:=by rw[beq_eq_false_iff_ne];omega);clear hm hb;go_wp2;go_roundw
            case rel=>exact ⟨j+1,by omega,by go_num,Hn.out,B3.out⟩
            case measure=>simp[intOf];omega
          by_cases hr58:58≤(s[j]).toNat∧(s[j]).toNat≤64
          · obtain ⟨r1,r2⟩:=hr58;have Hn:=jj (show false=q by rw[←Hq.out,jge hlt (wd_no (by omega))]);have z0:decide ((((s[j]).toNat:Nat):Int)≥97)=false:=decide_eq_false (by omega);have zz0:decide ((97:Int)≤(((s[j]).toNat:Nat):Int))=false:=decide_eq_false (by omega);have z1:decide ((((s[j]).toNat:Nat):Int)≤122)=true:=decide_eq_true (by omega);have z2:decide ((((s[j]).toNat:Nat):Int)≥65)=false:=decide_eq_false (by omega);have zz2:decide ((65:Int)≤(((s[j]).toNat:Nat):Int))=false:=decide_eq_false (by omega);have z3:decide ((((s[j]).toNat:Nat):Int)≤90)=true:=decide_eq_true (by omega);have z4:decide ((((s[j]).toNat:Nat):Int)≥48)=true:=decide_eq_true (by omega);have zz4:decide ((48:Int)≤(((s[j]).toNat:Nat):Int))=true:=decide_eq_true (by omega);have z5:decide ((((s[j]).toNat:Nat):Int)≤57)=false:=decide_eq_false (by omega);(have z6:((((s[j]).toNat:Nat):Int)==95)=false:=by rw[beq_eq_false_iff_ne];omega);clear hm hb;go_wp2;go_ret;exact ⟨ja1 Hn.out,B3.out⟩
          by_cases hr65:65≤(s[j]).toNat∧(s[j]).toNat≤90
          · obtain ⟨r1,r2⟩:=hr65;have Hn:=jj (jec hm hlt (jms (by omega)));have z0:decide ((((s[j]).toNat:Nat):Int)≥97)=false:=decide_eq_false (by omega);have zz0:decide ((97:Int)≤(((s[j]).toNat:Nat):Int))=false:=decide_eq_false (by omega);have z1:decide ((((s[j]).toNat:Nat):Int)≤122)=true:=decide_eq_true (by omega);have z2:decide ((((s[j]).toNat:Nat):Int)≥65)=true:=decide_eq_true (by omega);have zz2:decide ((65:Int)≤(((s[j]).toNat:Nat):Int))=true:=decide_eq_true (by omega);have z3:decide ((((s[j]).toNat:Nat):Int)≤90)=true:=decide_eq_true (by omega);have z4:decide ((((s[j]).toNat:Nat):Int)≥48)=true:=decide_eq_true (by omega);have zz4:decide ((48:Int)≤(((s[j]).toNat:Nat):Int))=true:=decide_eq_true (by omega);have z5:decide ((((s[j]).toNat:Nat):Int)≤57)=false:=decide_eq_false (by omega);(have z6:((((s[j]).toNat:Nat):Int)==95)=false:=by rw[beq_eq_false_iff_ne];omega);clear hm hb;go_wp2;go_roundw
            case rel=>exact ⟨j+1,by omega,by go_num,Hn.out,B3.out⟩
            case measure=>simp[intOf];omega
          by_cases hr91:91≤(s[j]).toNat∧(s[j]).toNat≤94
          · obtain ⟨r1,r2⟩:=hr91;have Hn:=jj (show false=q by rw[←Hq.out,jge hlt (wd_no (by omega))]);have z0:decide ((((s[j]).toNat:Nat):Int)≥97)=false:=decide_eq_false (by omega);have zz0:decide ((97:Int)≤(((s[j]).toNat:Nat):Int))=false:=decide_eq_false (by omega);have z1:decide ((((s[j]).toNat:Nat):Int)≤122)=true:=decide_eq_true (by omega);have z2:decide ((((s[j]).toNat:Nat):Int)≥65)=true:=decide_eq_true (by omega);have zz2:decide ((65:Int)≤(((s[j]).toNat:Nat):Int))=true:=decide_eq_true (by omega);have z3:decide ((((s[j]).toNat:Nat):Int)≤90)=false:=decide_eq_false (by omega);have z4:decide ((((s[j]).toNat:Nat):Int)≥48)=true:=decide_eq_true (by omega);have zz4:decide ((48:Int)≤(((s[j]).toNat:Nat):Int))=true:=decide_eq_true (by omega);have z5:decide ((((s[j]).toNat:Nat):Int)≤57)=false:=decide_eq_false (by omega);(have z6:((((s[j]).toNat:Nat):Int)==95)=false:=by rw[beq_eq_false_iff_ne];omega);clear hm hb;go_wp2;go_ret;exact ⟨ja1 Hn.out,B3.out⟩
          by_cases hr95:95≤(s[j]).toNat∧(s[j]).toNat≤95
          · obtain ⟨r1,r2⟩:=hr95;have Hn:=jj (jec hm hlt (jms (by omega)));have z0:decide ((((s[j]).toNat:Nat):Int)≥97)=false:=decide_eq_false (by omega);have zz0:decide ((97:Int)≤(((s[j]).toNat:Nat):Int))=false:=decide_eq_false (by omega);have z1:decide ((((s[j]).toNat:Nat):Int)≤122)=true:=decide_eq_true (by omega);have z2:decide ((((s[j]).toNat:Nat):Int)≥65)=true:=decide_eq_true (by omega);have zz2:decide ((65:Int)≤(((s[j]).toNat:Nat):Int))=true:=decide_eq_true (by omega);have z3:decide ((((s[j]).toNat:Nat):Int)≤90)=false:=decide_eq_false (by omega);have z4:decide ((((s[j]).toNat:Nat):Int)≥48)=true:=decide_eq_true (by omega);have zz4:decide ((48:Int)≤(((s[j]).toNat:Nat):Int))=true:=decide_eq_true (by omega);have z5:decide ((((s[j]).toNat:Nat):Int)≤57)=false:=decide_eq_false (by omega);(have z6:((((s[j]).toNat:Nat):Int)==95)=true:=by rw[beq_iff_eq];omega);clear hm hb;go_wp2;go_roundw
            case rel=>exact ⟨j+1,by omega,by go_num,Hn.out,B3.out⟩
            case measure=>simp[intOf];omega
          by_cases hr96:96≤(s[j]).toNat∧(s[j]).toNat≤96
          · obtain ⟨r1,r2⟩:=hr96;have Hn:=jj (show false=q by rw[←Hq.out,jge hlt (wd_no (by omega))]);have z0:decide ((((s[j]).toNat:Nat):Int)≥97)=false:=decide_eq_false (by omega);have zz0:decide ((97:Int)≤(((s[j]).toNat:Nat):Int))=false:=decide_eq_false (by omega);have z1:decide ((((s[j]).toNat:Nat):Int)≤122)=true:=decide_eq_true (by omega);have z2:decide ((((s[j]).toNat:Nat):Int)≥65)=true:=decide_eq_true (by omega);have zz2:decide ((65:Int)≤(((s[j]).toNat:Nat):Int))=true:=decide_eq_true (by omega);have z3:decide ((((s[j]).toNat:Nat):Int)≤90)=false:=decide_eq_false (by omega);have z4:decide ((((s[j]).toNat:Nat):Int)≥48)=true:=decide_eq_true (by omega);have zz4:decide ((48:Int)≤(((s[j]).toNat:Nat):Int))=true:=decide_eq_true (by omega);have z5:decide ((((s[j]).toNat:Nat):Int)≤57)=false:=decide_eq_false (by omega);(have z6:((((s[j]).toNat:Nat):Int)==95)=false:=by rw[beq_eq_false_iff_ne];omega);clear hm hb;go_wp2;go_ret;exact ⟨ja1 Hn.out,B3.out⟩
          by_cases hr97:97≤(s[j]).toNat∧(s[j]).toNat≤122
          · obtain ⟨r1,r2⟩:=hr97;have Hn:=jj (jec hm hlt (jms (by omega)));have z0:decide ((((s[j]).toNat:Nat):Int)≥97)=true:=decide_eq_true (by omega);have zz0:decide ((97:Int)≤(((s[j]).toNat:Nat):Int))=true:=decide_eq_true (by omega);have z1:decide ((((s[j]).toNat:Nat):Int)≤122)=true:=decide_eq_true (by omega);have z2:decide ((((s[j]).toNat:Nat):Int)≥65)=true:=decide_eq_true (by omega);have zz2:decide ((65:Int)≤(((s[j]).toNat:Nat):Int))=true:=decide_eq_true (by omega);have z3:decide ((((s[j]).toNat:Nat):Int)≤90)=false:=decide_eq_false (by omega);have z4:decide ((((s[j]).toNat:Nat):Int)≥48)=true:=decide_eq_true (by omega);have zz4:decide ((48:Int)≤(((s[j]).toNat:Nat):Int))=true:=decide_eq_true (by omega);have z5:decide ((((s[j]).toNat:Nat):Int)≤57)=false:=decide_eq_false (by omega);(have z6:((((s[j]).toNat:Nat):Int)==95)=false:=by rw[beq_eq_false_iff_ne];omega);clear hm hb;go_wp2;go_roundw
            case rel=>exact ⟨j+1,by omega,by go_num,Hn.out,B3.out⟩
            case measure=>simp[intOf];omega
          by_cases hr123:123≤(s[j]).toNat∧(s[j]).toNat≤255
          · obtain ⟨r1,r2⟩:=hr123;have Hn:=jj (show false=q by rw[←Hq.out,jge hlt (wd_no (by omega))]);have z0:decide ((((s[j]).toNat:Nat):Int)≥97)=true:=decide_eq_true (by omega);have zz0:decide ((97:Int)≤(((s[j]).toNat:Nat):Int))=true:=decide_eq_true (by omega);have z1:decide ((((s[j]).toNat:Nat):Int)≤122)=false:=decide_eq_false (by omega);have z2:decide ((((s[j]).toNat:Nat):Int)≥65)=true:=decide_eq_true (by omega);have zz2:decide ((65:Int)≤(((s[j]).toNat:Nat):Int))=true:=decide_eq_true (by omega);have z3:decide ((((s[j]).toNat:Nat):Int)≤90)=false:=decide_eq_false (by omega);have z4:decide ((((s[j]).toNat:Nat):Int)≥48)=true:=decide_eq_true (by omega);have zz4:decide ((48:Int)≤(((s[j]).toNat:Nat):Int))=true:=decide_eq_true (by omega);have z5:decide ((((s[j]).toNat:Nat):Int)≤57)=false:=decide_eq_false (by omega);(have z6:((((s[j]).toNat:Nat):Int)==95)=false:=by rw[beq_eq_false_iff_ne];omega);clear hm hb;go_wp2;go_ret;exact ⟨ja1 Hn.out,B3.out⟩
          exact absurd trivial (by omega)
        · have hji:¬(j:Int)<(s.size:Int):=by omega
          have Hn:=jj (show true=q by
            rw[List.take_of_length_le (by rw[size_list];omega)] at hm
            rw[←Hq.out,hm])
          clear hm hb;go_wp2;go_ret;exact ⟨ja1 Hn.out,B3.out⟩
    · (have r1:58≤(s[0]).toNat:=by omega);have z0:decide ((((s[0]).toNat:Nat):Int)≥48)=true:=decide_eq_true (by omega);have zz0:decide ((48:Int)≤(((s[0]).toNat:Nat):Int))=true:=decide_eq_true (by omega);have z1:decide ((((s[0]).toNat:Nat):Int)≤57)=false:=decide_eq_false (by omega);clear h0 hk hdg hlo;go_enter Tryz.func46,Tryz.ntmps46;go_wp2_with fail;(with_reducible refine (HK.out _).mono ?_);rintro e w3 ⟨rfl,hb⟩;have HB:=jj hb;clear hb;go_wp2_with fail;clear z0 zz0 z1 r1
      go_loopw [3] (fun y wr=>∃j:Nat,j≤s.size∧y=.int .i64 (j:Int)∧(s.data.toList.take j).all wdB=true∧Below w.heap.size w wr) (fun y _=>s.size - (intOf y).toNat)
      case atStart=>exact ⟨0,Nat.zero_le _,rfl,rfl,HB.out⟩
      case round =>
        obtain ⟨j,hj,rfl,hm,hb⟩:=hrel;obtain ⟨w3,hw3⟩:∃w3,w3=wr:=⟨wr,rfl⟩;subst hw3;have B3:=jj hb;by_cases hlt:j<s.size
        · (have hji:(j:Int)<(s.size:Int):=by omega);have hc:=jgc s[j];have hc0:0≤(s[j]).toNat:=Nat.zero_le _;by_cases hr0:0≤(s[j]).toNat∧(s[j]).toNat≤47
          · obtain ⟨r1,r2⟩:=hr0;have Hn:=jj (show false=q by rw[←Hq.out,jge hlt (wd_no (by omega))]);have z0:decide ((((s[j]).toNat:Nat):Int)≥97)=false:=decide_eq_false (by omega);have zz0:decide ((97:Int)≤(((s[j]).toNat:Nat):Int))=false:=decide_eq_false (by omega);have z1:decide ((((s[j]).toNat:Nat):Int)≤122)=true:=decide_eq_true (by omega);have z2:decide ((((s[j]).toNat:Nat):Int)≥65)=false:=decide_eq_false (by omega);have zz2:decide ((65:Int)≤(((s[j]).toNat:Nat):Int))=false:=decide_eq_false (by omega);have z3:decide ((((s[j]).toNat:Nat):Int)≤90)=true:=decide_eq_true (by omega);have z4:decide ((((s[j]).toNat:Nat):Int)≥48)=false:=decide_eq_false (by omega);have zz4:decide ((48:Int)≤(((s[j]).toNat:Nat):Int))=false:=decide_eq_false (by omega);have z5:decide ((((s[j]).toNat:Nat):Int)≤57)=true:=decide_eq_true (by omega);(have z6:((((s[j]).toNat:Nat):Int)==95)=false:=by rw[beq_eq_false_iff_ne];omega);clear hm hb;go_wp2;go_ret;exact ⟨ja1 Hn.out,B3.out⟩
          by_cases hr48:48≤(s[j]).toNat∧(s[j]).toNat≤57
          · obtain ⟨r1,r2⟩:=hr48;have Hn:=jj (jec hm hlt (jms (by omega)));have z0:decide ((((s[j]).toNat:Nat):Int)≥97)=false:=decide_eq_false (by omega);have zz0:decide ((97:Int)≤(((s[j]).toNat:Nat):Int))=false:=decide_eq_false (by omega);have z1:decide ((((s[j]).toNat:Nat):Int)≤122)=true:=decide_eq_true (by omega);have z2:decide ((((s[j]).toNat:Nat):Int)≥65)=false:=decide_eq_false (by omega);have zz2:decide ((65:Int)≤(((s[j]).toNat:Nat):Int))=false:=decide_eq_false (by omega);have z3:decide ((((s[j]).toNat:Nat):Int)≤90)=true:=decide_eq_true (by omega);have z4:decide ((((s[j]).toNat:Nat):Int)≥48)=true:=decide_eq_true (by omega);have zz4:decide ((48:Int)≤(((s[j]).toNat:Nat):Int))=true:=decide_eq_true (by omega);have z5:decide ((((s[j]).toNat:Nat):Int)≤57)=true:=decide_eq_true (by omega);(have z6:((((s[j]).toNat:Nat):Int)==95)=false:=by rw[beq_eq_false_iff_ne];omega);clear hm hb;go_wp2;go_roundw
            case rel=>exact ⟨j+1,by omega,by go_num,Hn.out,B3.out⟩
            case measure=>simp[intOf];omega
          by_cases hr58:58≤(s[j]).toNat∧(s[j]).toNat≤64
          · obtain ⟨r1,r2⟩:=hr58;have Hn:=jj (show false=q by rw[←Hq.out,jge hlt (wd_no (by omega))]);have z0:decide ((((s[j]).toNat:Nat):Int)≥97)=false:=decide_eq_false (by omega);have zz0:decide ((97:Int)≤(((s[j]).toNat:Nat):Int))=false:=decide_eq_false (by omega);have z1:decide ((((s[j]).toNat:Nat):Int)≤122)=true:=decide_eq_true (by omega);have z2:decide ((((s[j]).toNat:Nat):Int)≥65)=false:=decide_eq_false (by omega);have zz2:decide ((65:Int)≤(((s[j]).toNat:Nat):Int))=false:=decide_eq_false (by omega);have z3:decide ((((s[j]).toNat:Nat):Int)≤90)=true:=decide_eq_true (by omega);have z4:decide ((((s[j]).toNat:Nat):Int)≥48)=true:=decide_eq_true (by omega);have zz4:decide ((48:Int)≤(((s[j]).toNat:Nat):Int))=true:=decide_eq_true (by omega);have z5:decide ((((s[j]).toNat:Nat):Int)≤57)=false:=decide_eq_false (by omega);(have z6:((((s[j]).toNat:Nat):Int)==95)=false:=by rw[beq_eq_false_iff_ne];omega);clear hm hb;go_wp2;go_ret;exact ⟨ja1 Hn.out,B3.out⟩
          by_cases hr65:65≤(s[j]).toNat∧(s[j]).toNat≤90
          · obtain ⟨r1,r2⟩:=hr65;have Hn:=jj (jec hm hlt (jms (by omega)));have z0:decide ((((s[j]).toNat:Nat):Int)≥97)=false:=decide_eq_false (by omega);have zz0:decide ((97:Int)≤(((s[j]).toNat:Nat):Int))=false:=decide_eq_false (by omega);have z1:decide ((((s[j]).toNat:Nat):Int)≤122)=true:=decide_eq_true (by omega);have z2:decide ((((s[j]).toNat:Nat):Int)≥65)=true:=decide_eq_true (by omega);have zz2:decide ((65:Int)≤(((s[j]).toNat:Nat):Int))=true:=decide_eq_true (by omega);have z3:decide ((((s[j]).toNat:Nat):Int)≤90)=true:=decide_eq_true (by omega);have z4:decide ((((s[j]).toNat:Nat):Int)≥48)=true:=decide_eq_true (by omega);have zz4:decide ((48:Int)≤(((s[j]).toNat:Nat):Int))=true:=decide_eq_true (by omega);have z5:decide ((((s[j]).toNat:Nat):Int)≤57)=false:=decide_eq_false (by omega);(have z6:((((s[j]).toNat:Nat):Int)==95)=false:=by rw[beq_eq_false_iff_ne];omega);clear hm hb;go_wp2;go_roundw
            case rel=>exact ⟨j+1,by omega,by go_num,Hn.out,B3.out⟩
            case measure=>simp[intOf];omega
          by_cases hr91:91≤(s[j]).toNat∧(s[j]).toNat≤94
          · obtain ⟨r1,r2⟩:=hr91;have Hn:=jj (show false=q by rw[←Hq.out,jge hlt (wd_no (by omega))]);have z0:decide ((((s[j]).toNat:Nat):Int)≥97)=false:=decide_eq_false (by omega);have zz0:decide ((97:Int)≤(((s[j]).toNat:Nat):Int))=false:=decide_eq_false (by omega);have z1:decide ((((s[j]).toNat:Nat):Int)≤122)=true:=decide_eq_true (by omega);have z2:decide ((((s[j]).toNat:Nat):Int)≥65)=true:=decide_eq_true (by omega);have zz2:decide ((65:Int)≤(((s[j]).toNat:Nat):Int))=true:=decide_eq_true (by omega);have z3:decide ((((s[j]).toNat:Nat):Int)≤90)=false:=decide_eq_false (by omega);have z4:decide ((((s[j]).toNat:Nat):Int)≥48)=true:=decide_eq_true (by omega);have zz4:decide ((48:Int)≤(((s[j]).toNat:Nat):Int))=true:=decide_eq_true (by omega);have z5:decide ((((s[j]).toNat:Nat):Int)≤57)=false:=decide_eq_false (by omega);(have z6:((((s[j]).toNat:Nat):Int)==95)=false:=by rw[beq_eq_false_iff_ne];omega);clear hm hb;go_wp2;go_ret;exact ⟨ja1 Hn.out,B3.out⟩
          by_cases hr95:95≤(s[j]).toNat∧(s[j]).toNat≤95
          · obtain ⟨r1,r2⟩:=hr95;have Hn:=jj (jec hm hlt (jms (by omega)));have z0:decide ((((s[j]).toNat:Nat):Int)≥97)=false:=decide_eq_false (by omega);have zz0:decide ((97:Int)≤(((s[j]).toNat:Nat):Int))=false:=decide_eq_false (by omega);have z1:decide ((((s[j]).toNat:Nat):Int)≤122)=true:=decide_eq_true (by omega);have z2:decide ((((s[j]).toNat:Nat):Int)≥65)=true:=decide_eq_true (by omega);have zz2:decide ((65:Int)≤(((s[j]).toNat:Nat):Int))=true:=decide_eq_true (by omega);have z3:decide ((((s[j]).toNat:Nat):Int)≤90)=false:=decide_eq_false (by omega);have z4:decide ((((s[j]).toNat:Nat):Int)≥48)=true:=decide_eq_true (by omega);have zz4:decide ((48:Int)≤(((s[j]).toNat:Nat):Int))=true:=decide_eq_true (by omega);have z5:decide ((((s[j]).toNat:Nat):Int)≤57)=false:=decide_eq_false (by omega);(have z6:((((s[j]).toNat:Nat):Int)==95)=true:=by rw[beq_iff_eq];omega);clear hm hb;go_wp2;go_roundw
            case rel=>exact ⟨j+1,by omega,by go_num,Hn.out,B3.out⟩
            case measure=>simp[intOf];omega
          by_cases hr96:96≤(s[j]).toNat∧(s[j]).toNat≤96
          · obtain ⟨r1,r2⟩:=hr96;have Hn:=jj (show false=q by rw[←Hq.out,jge hlt (wd_no (by omega))]);have z0:decide ((((s[j]).toNat:Nat):Int)≥97)=false:=decide_eq_false (by omega);have zz0:decide ((97:Int)≤(((s[j]).toNat:Nat):Int))=false:=decide_eq_false (by omega);have z1:decide ((((s[j]).toNat:Nat):Int)≤122)=true:=decide_eq_true (by omega);have z2:decide ((((s[j]).toNat:Nat):Int)≥65)=true:=decide_eq_true (by omega);have zz2:decide ((65:Int)≤(((s[j]).toNat:Nat):Int))=true:=decide_eq_true (by omega);have z3:decide ((((s[j]).toNat:Nat):Int)≤90)=false:=decide_eq_false (by omega);have z4:decide ((((s[j]).toNat:Nat):Int)≥48)=true:=decide_eq_true (by omega);have zz4:decide ((48:Int)≤(((s[j]).toNat:Nat):Int))=true:=decide_eq_true (by omega);have z5:decide ((((s[j]).toNat:Nat):Int)≤57)=false:=decide_eq_false (by omega);(have z6:((((s[j]).toNat:Nat):Int)==95)=false:=by rw[beq_eq_false_iff_ne];omega);clear hm hb;go_wp2;go_ret;exact ⟨ja1 Hn.out,B3.out⟩
          by_cases hr97:97≤(s[j]).toNat∧(s[j]).toNat≤122
          · obtain ⟨r1,r2⟩:=hr97;have Hn:=jj (jec hm hlt (jms (by omega)));have z0:decide ((((s[j]).toNat:Nat):Int)≥97)=true:=decide_eq_true (by omega);have zz0:decide ((97:Int)≤(((s[j]).toNat:Nat):Int))=true:=decide_eq_true (by omega);have z1:decide ((((s[j]).toNat:Nat):Int)≤122)=true:=decide_eq_true (by omega);have z2:decide ((((s[j]).toNat:Nat):Int)≥65)=true:=decide_eq_true (by omega);have zz2:decide ((65:Int)≤(((s[j]).toNat:Nat):Int))=true:=decide_eq_true (by omega);have z3:decide ((((s[j]).toNat:Nat):Int)≤90)=false:=decide_eq_false (by omega);have z4:decide ((((s[j]).toNat:Nat):Int)≥48)=true:=decide_eq_true (by omega);have zz4:decide ((48:Int)≤(((s[j]).toNat:Nat):Int))=true:=decide_eq_true (by omega);have z5:decide ((((s[j]).toNat:Nat):Int)≤57)=false:=decide_eq_false (by omega);(have z6:((((s[j]).toNat:Nat):Int)==95)=false:=by rw[beq_eq_false_iff_ne];omega);clear hm hb;go_wp2;go_roundw
            case rel=>exact ⟨j+1,by omega,by go_num,Hn.out,B3.out⟩
            case measure=>simp[intOf];omega
          by_cases hr123:123≤(s[j]).toNat∧(s[j]).toNat≤255
          · obtain ⟨r1,r2⟩:=hr123;have Hn:=jj (show false=q by rw[←Hq.out,jge hlt (wd_no (by omega))]);have z0:decide ((((s[j]).toNat:Nat):Int)≥97)=true:=decide_eq_true (by omega);have zz0:decide ((97:Int)≤(((s[j]).toNat:Nat):Int))=true:=decide_eq_true (by omega);have z1:decide ((((s[j]).toNat:Nat):Int)≤122)=false:=decide_eq_false (by omega);have z2:decide ((((s[j]).toNat:Nat):Int)≥65)=true:=decide_eq_true (by omega);have zz2:decide ((65:Int)≤(((s[j]).toNat:Nat):Int))=true:=decide_eq_true (by omega);have z3:decide ((((s[j]).toNat:Nat):Int)≤90)=false:=decide_eq_false (by omega);have z4:decide ((((s[j]).toNat:Nat):Int)≥48)=true:=decide_eq_true (by omega);have zz4:decide ((48:Int)≤(((s[j]).toNat:Nat):Int))=true:=decide_eq_true (by omega);have z5:decide ((((s[j]).toNat:Nat):Int)≤57)=false:=decide_eq_false (by omega);(have z6:((((s[j]).toNat:Nat):Int)==95)=false:=by rw[beq_eq_false_iff_ne];omega);clear hm hb;go_wp2;go_ret;exact ⟨ja1 Hn.out,B3.out⟩
          exact absurd trivial (by omega)
        · have hji:¬(j:Int)<(s.size:Int):=by omega
          have Hn:=jj (show true=q by
            rw[List.take_of_length_le (by rw[size_list];omega)] at hm
            rw[←Hq.out,hm])
          clear hm hb;go_wp2;go_ret;exact ⟨ja1 Hn.out,B3.out⟩
theorem rintOk (s:ByteArray) (q:Bool) (hq:jb8 3 s.data.toList=q) (w:World) :
    Calls Tryz.prog 188 #[.string s] w fun e w'=>e=.returned (.bool q)∧Below w.heap.size w w':=by
  rw[right_int] at hq;unfold digR at hq;rw[size_list] at hq;have HB:=jj (Below.refl w.heap.size w);by_cases h0:s.size=0
  · obtain rfl:=empty_of' h0;have Hq:=jj (show false=q from hq);clear hq h0;go_enter Tryz.func188,Tryz.ntmps188;go_wp2;go_ret;exact ⟨ja1 Hq.out,Below.refl _ _⟩
  (have hpos:0<s.size:=by omega);(have hp1:(0:Int)<(s.size:Int):=by omega);have e1:decide ((s.size:Int)<1)=false:=decide_eq_false (by omega);by_cases h9:s.size≤9
  case neg =>
    have hd:decide ((s.size:Int) > 9)=true:=decide_eq_true (by omega);have hd':decide ((9:Int)<(s.size:Int))=true:=decide_eq_true (by omega);have Hq:=jj (show false=q by rw[←hq,decide_eq_false h9];simp);clear hq h0;go_enter Tryz.func188,Tryz.ntmps188;go_wp2;go_ret;exact ⟨ja1 Hq.out,Below.refl _ _⟩
  have hd:decide ((s.size:Int) > 9)=false:=decide_eq_false (by omega);have hd':decide ((9:Int)<(s.size:Int))=false:=decide_eq_false (by omega);rw[decide_eq_true h9,decide_eq_true (show 1≤s.size by omega),Bool.true_and,Bool.true_and] at hq;have e48:(((s[0]).toNat:Int)==48)=(s[0]==48):=je9 (by decide);(have hh:s.data.toList.headD 0=s[0]:=by rw[jnp hpos];rfl);rw[hh] at hq;by_cases h1:s.size=1
  · have d1:decide ((s.size:Int) > 1)=false:=decide_eq_false (by omega);have d1':decide ((1:Int)<(s.size:Int))=false:=decide_eq_false (by omega);have Hq:=jj (show s.data.toList.all dgB=q by rw[←hq,decide_eq_true h1];simp);clear hq e48 hh h1 h0;go_enter Tryz.func188,Tryz.ntmps188;go_wp2_with fail
    go_loopw [3] (fun y wr=>∃j:Nat,j≤s.size∧y=.int .i64 (j:Int)∧(s.data.toList.take j).all dgB=true∧Below w.heap.size w wr) (fun y _=>s.size - (intOf y).toNat)
    case atStart=>exact ⟨0,Nat.zero_le _,rfl,rfl,HB.out⟩
    case round =>
      obtain ⟨j,hj,rfl,hm,hb⟩:=hrel;obtain ⟨w3,hw3⟩:∃w3,w3=wr:=⟨wr,rfl⟩;subst hw3;have B3:=jj hb;by_cases hlt:j<s.size
      · (have hji:(j:Int)<(s.size:Int):=by omega);have hc:=jgc s[j];have hc0:0≤(s[j]).toNat:=Nat.zero_le _;by_cases hr0:0≤(s[j]).toNat∧(s[j]).toNat≤47
        · obtain ⟨r1,r2⟩:=hr0;have Hn:=jj (show false=q by rw[←Hq.out,jge hlt (by unfold dgB;simp;omega)]);have z0:decide ((((s[j]).toNat:Nat):Int)<48)=true:=decide_eq_true (by omega);have z1:decide ((((s[j]).toNat:Nat):Int) > 57)=false:=decide_eq_false (by omega);have zz1:decide ((57:Int)<(((s[j]).toNat:Nat):Int))=false:=decide_eq_false (by omega);clear hm hb;go_wp2;go_ret;exact ⟨ja1 Hn.out,B3.out⟩
        by_cases hr48:48≤(s[j]).toNat∧(s[j]).toNat≤57
        · obtain ⟨r1,r2⟩:=hr48;have Hn:=jj (jec hm hlt (by unfold dgB;simp;omega));have z0:decide ((((s[j]).toNat:Nat):Int)<48)=false:=decide_eq_false (by omega);have z1:decide ((((s[j]).toNat:Nat):Int) > 57)=false:=decide_eq_false (by omega);have zz1:decide ((57:Int)<(((s[j]).toNat:Nat):Int))=false:=decide_eq_false (by omega);clear hm hb;go_wp2;go_roundw
          case rel=>exact ⟨j+1,by omega,by go_num,Hn.out,B3.out⟩
          case measure=>simp[intOf];omega
        by_cases hr58:58≤(s[j]).toNat∧(s[j]).toNat≤255
        · obtain ⟨r1,r2⟩:=hr58;have Hn:=jj (show false=q by rw[←Hq.out,jge hlt (by unfold dgB;simp;omega)]);have z0:decide ((((s[j]).toNat:Nat):Int)<48)=false:=decide_eq_false (by omega);have z1:decide ((((s[j]).toNat:Nat):Int) > 57)=true:=decide_eq_true (by omega);have zz1:decide ((57:Int)<(((s[j]).toNat:Nat):Int))=true:=decide_eq_true (by omega);clear hm hb;go_wp2;go_ret;exact ⟨ja1 Hn.out,B3.out⟩
        exact absurd trivial (by omega)
      · have hji:¬(j:Int)<(s.size:Int):=by omega
        have Hn:=jj (show true=q by
          rw[List.take_of_length_le (by rw[size_list];omega)] at hm
          rw[←Hq.out,hm])
        clear hm hb;go_wp2;go_ret;exact ⟨ja1 Hn.out,B3.out⟩
  have d1:decide ((s.size:Int) > 1)=true:=decide_eq_true (by omega);have d1':decide ((1:Int)<(s.size:Int))=true:=decide_eq_true (by omega);rw[decide_eq_false h1,Bool.false_or] at hq
  cases h48:(s[0]==48) with
  | true =>
    rw[h48] at e48;have Hq:=jj (show false=q by rw[←hq,h48];simp);clear hq hh h1 h0 h48;go_enter Tryz.func188,Tryz.ntmps188;go_wp2;go_ret;exact ⟨ja1 Hq.out,Below.refl _ _⟩
  | false =>
    rw[h48] at e48;have Hq:=jj (show s.data.toList.all dgB=q by rw[←hq,h48];simp);clear hq hh h1 h0 h48;go_enter Tryz.func188,Tryz.ntmps188;go_wp2_with fail;clear e48
    go_loopw [3] (fun y wr=>∃j:Nat,j≤s.size∧y=.int .i64 (j:Int)∧(s.data.toList.take j).all dgB=true∧Below w.heap.size w wr) (fun y _=>s.size - (intOf y).toNat)
    case atStart=>exact ⟨0,Nat.zero_le _,rfl,rfl,HB.out⟩
    case round =>
      obtain ⟨j,hj,rfl,hm,hb⟩:=hrel;obtain ⟨w3,hw3⟩:∃w3,w3=wr:=⟨wr,rfl⟩;subst hw3;have B3:=jj hb;by_cases hlt:j<s.size
      · (have hji:(j:Int)<(s.size:Int):=by omega);have hc:=jgc s[j];have hc0:0≤(s[j]).toNat:=Nat.zero_le _;by_cases hr0:0≤(s[j]).toNat∧(s[j]).toNat≤47
        · obtain ⟨r1,r2⟩:=hr0;have Hn:=jj (show false=q by rw[←Hq.out,jge hlt (by unfold dgB;simp;omega)]);have z0:decide ((((s[j]).toNat:Nat):Int)<48)=true:=decide_eq_true (by omega);have z1:decide ((((s[j]).toNat:Nat):Int) > 57)=false:=decide_eq_false (by omega);have zz1:decide ((57:Int)<(((s[j]).toNat:Nat):Int))=false:=decide_eq_false (by omega);clear hm hb;go_wp2;go_ret;exact ⟨ja1 Hn.out,B3.out⟩
        by_cases hr48:48≤(s[j]).toNat∧(s[j]).toNat≤57
        · obtain ⟨r1,r2⟩:=hr48;have Hn:=jj (jec hm hlt (by unfold dgB;simp;omega));have z0:decide ((((s[j]).toNat:Nat):Int)<48)=false:=decide_eq_false (by omega);have z1:decide ((((s[j]).toNat:Nat):Int) > 57)=false:=decide_eq_false (by omega);have zz1:decide ((57:Int)<(((s[j]).toNat:Nat):Int))=false:=decide_eq_false (by omega);clear hm hb;go_wp2;go_roundw
          case rel=>exact ⟨j+1,by omega,by go_num,Hn.out,B3.out⟩
          case measure=>simp[intOf];omega
        by_cases hr58:58≤(s[j]).toNat∧(s[j]).toNat≤255
        · obtain ⟨r1,r2⟩:=hr58;have Hn:=jj (show false=q by rw[←Hq.out,jge hlt (by unfold dgB;simp;omega)]);have z0:decide ((((s[j]).toNat:Nat):Int)<48)=false:=decide_eq_false (by omega);have z1:decide ((((s[j]).toNat:Nat):Int) > 57)=true:=decide_eq_true (by omega);have zz1:decide ((57:Int)<(((s[j]).toNat:Nat):Int))=true:=decide_eq_true (by omega);clear hm hb;go_wp2;go_ret;exact ⟨ja1 Hn.out,B3.out⟩
        exact absurd trivial (by omega)
      · have hji:¬(j:Int)<(s.size:Int):=by omega
        have Hn:=jj (show true=q by
          rw[List.take_of_length_le (by rw[size_list];omega)] at hm
          rw[←Hq.out,hm])
        clear hm hb;go_wp2;go_ret;exact ⟨ja1 Hn.out,B3.out⟩
theorem con_no {c:UInt8} (h:¬(c.toNat=10∨(32≤c.toNat∧c.toNat≤126))):jkq c=false:=by
  have h10:(c==10)=false:=by
    rw[beq_eq_false_iff_ne];intro e;subst e;exact h (Or.inl rfl)
  unfold jkq visB;rw[h10];simp;omega
theorem con_yes {c:UInt8} (h:c.toNat=10∨(32≤c.toNat∧c.toNat≤126)):jkq c=true:=by
  by_cases h5:c.toNat=10
  · have:c=10:=by
      apply UInt8.toNat_inj.1;rw[h5];try rfl
    subst this;rfl
  · unfold jkq visB;simp;omega
theorem rtextOk (s:ByteArray) (q:Bool) (hq:jb8 4 s.data.toList=q) (w:World) :
    Calls Tryz.prog 189 #[.string s] w fun e w'=>e=.returned (.bool q)∧Below w.heap.size w w':=by
  rw[right_text,size_list] at hq;have HB:=jj (Below.refl w.heap.size w);by_cases h60:s.size≤60
  case neg =>
    have hd:decide ((s.size:Int) > 60)=true:=decide_eq_true (by omega);have hd':decide ((60:Int)<(s.size:Int))=true:=decide_eq_true (by omega);have Hq:=jj (show false=q by rw[←hq,decide_eq_false h60];simp);clear hq;go_enter Tryz.func189,Tryz.ntmps189;go_wp2;go_ret;exact ⟨ja1 Hq.out,Below.refl _ _⟩
  have hd:decide ((s.size:Int) > 60)=false:=decide_eq_false (by omega);have hd':decide ((60:Int)<(s.size:Int))=false:=decide_eq_false (by omega);rw[decide_eq_true h60,Bool.and_true] at hq;have Hq:=jj hq;clear hq;go_enter Tryz.func189,Tryz.ntmps189;go_wp2_with fail
  go_loopw [3] (fun y wr=>∃j:Nat,j≤s.size∧y=.int .i64 (j:Int)∧(s.data.toList.take j).all jkq=true∧Below w.heap.size w wr) (fun y _=>s.size - (intOf y).toNat)
  case atStart=>exact ⟨0,Nat.zero_le _,rfl,rfl,HB.out⟩
  case round =>
    obtain ⟨j,hj,rfl,hm,hb⟩:=hrel;obtain ⟨w3,hw3⟩:∃w3,w3=wr:=⟨wr,rfl⟩;subst hw3;have B3:=jj hb;by_cases hlt:j<s.size
    · (have hji:(j:Int)<(s.size:Int):=by omega);have hc:=jgc s[j];have hc0:0≤(s[j]).toNat:=Nat.zero_le _;by_cases hr0:0≤(s[j]).toNat∧(s[j]).toNat≤9
      · obtain ⟨r1,r2⟩:=hr0;have Hn:=jj (show false=q by rw[←Hq.out,jge hlt (con_no (by omega))]);have z0:decide ((((s[j]).toNat:Nat):Int)<32)=true:=decide_eq_true (by omega);have z1:decide ((((s[j]).toNat:Nat):Int) > 126)=false:=decide_eq_false (by omega);have zz1:decide ((126:Int)<(((s[j]).toNat:Nat):Int))=false:=decide_eq_false (by omega);(have y0:(((s[j]).toNat:Int) != 10)=true:=by unfold bne;rw[show (((s[j]).toNat:Int)==10)=false by rw[beq_eq_false_iff_ne];omega];rfl);clear hm hb;go_wp2;go_ret;exact ⟨ja1 Hn.out,B3.out⟩
      by_cases hr10:10≤(s[j]).toNat∧(s[j]).toNat≤10
      · obtain ⟨r1,r2⟩:=hr10;have Hn:=jj (jec hm hlt (con_yes (by omega)));have z0:decide ((((s[j]).toNat:Nat):Int)<32)=true:=decide_eq_true (by omega);have z1:decide ((((s[j]).toNat:Nat):Int) > 126)=false:=decide_eq_false (by omega);have zz1:decide ((126:Int)<(((s[j]).toNat:Nat):Int))=false:=decide_eq_false (by omega);(have y0:(((s[j]).toNat:Int) != 10)=false:=by unfold bne;rw[show (((s[j]).toNat:Int)==10)=true by rw[beq_iff_eq];omega];rfl);clear hm hb;go_wp2;go_roundw
        case rel=>exact ⟨j+1,by omega,by go_num,Hn.out,B3.out⟩
        case measure=>simp[intOf];omega
      by_cases hr11:11≤(s[j]).toNat∧(s[j]).toNat≤31
      · obtain ⟨r1,r2⟩:=hr11;have Hn:=jj (show false=q by rw[←Hq.out,jge hlt (con_no (by omega))]);have z0:decide ((((s[j]).toNat:Nat):Int)<32)=true:=decide_eq_true (by omega);have z1:decide ((((s[j]).toNat:Nat):Int) > 126)=false:=decide_eq_false (by omega);have zz1:decide ((126:Int)<(((s[j]).toNat:Nat):Int))=false:=decide_eq_false (by omega);(have y0:(((s[j]).toNat:Int) != 10)=true:=by unfold bne;rw[show (((s[j]).toNat:Int)==10)=false by rw[beq_eq_false_iff_ne];omega];rfl);clear hm hb;go_wp2;go_ret;exact ⟨ja1 Hn.out,B3.out⟩
      by_cases hr32:32≤(s[j]).toNat∧(s[j]).toNat≤126
      · obtain ⟨r1,r2⟩:=hr32;have Hn:=jj (jec hm hlt (con_yes (by omega)));have z0:decide ((((s[j]).toNat:Nat):Int)<32)=false:=decide_eq_false (by omega);have z1:decide ((((s[j]).toNat:Nat):Int) > 126)=false:=decide_eq_false (by omega);have zz1:decide ((126:Int)<(((s[j]).toNat:Nat):Int))=false:=decide_eq_false (by omega);(have y0:(((s[j]).toNat:Int) != 10)=true:=by unfold bne;rw[show (((s[j]).toNat:Int)==10)=false by rw[beq_eq_false_iff_ne];omega];rfl);clear hm hb;go_wp2;go_roundw
        case rel=>exact ⟨j+1,by omega,by go_num,Hn.out,B3.out⟩
        case measure=>simp[intOf];omega
      by_cases hr127:127≤(s[j]).toNat∧(s[j]).toNat≤255
      · obtain ⟨r1,r2⟩:=hr127;have Hn:=jj (show false=q by rw[←Hq.out,jge hlt (con_no (by omega))]);have z0:decide ((((s[j]).toNat:Nat):Int)<32)=false:=decide_eq_false (by omega);have z1:decide ((((s[j]).toNat:Nat):Int) > 126)=true:=decide_eq_true (by omega);have zz1:decide ((126:Int)<(((s[j]).toNat:Nat):Int))=true:=decide_eq_true (by omega);(have y0:(((s[j]).toNat:Int) != 10)=true:=by unfold bne;rw[show (((s[j]).toNat:Int)==10)=false by rw[beq_eq_false_iff_ne];omega];rfl);clear hm hb;go_wp2;go_ret;exact ⟨ja1 Hn.out,B3.out⟩
      exact absurd trivial (by omega)
    · have hji:¬(j:Int)<(s.size:Int):=by omega
      have Hn:=jj (show true=q by
        rw[List.take_of_length_le (by rw[size_list];omega)] at hm
        rw[←Hq.out,hm])
      clear hm hb;go_wp2;go_ret;exact ⟨ja1 Hn.out,B3.out⟩
end
end Go.Proofs.YtonoklmobocikaaGreatDoor
