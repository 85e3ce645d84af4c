/- Lemmas. -/
import Derived.Test.YtonoklmobocikaaGreatDoorK32
set_option linter.unusedVariables false
set_option linter.unusedSimpArgs false
set_option maxRecDepth 20000
set_option maxHeartbeats 6400000
namespace Go.Proofs.YtonoklmobocikaaGreatDoor
section
open Go.RowKit
theorem rdepth:∀(f:Nat) (n:Nd) (W:World) (v:Value),sizeN n≤f→sizeN n≤1000000000→NdV W (fun _=>True) v n →
    Calls Tryz.prog 23 #[v] W fun e w'=>e=.returned (.int .i64 (jde n:Int))∧Below W.heap.size W w':=by
  intro f
  induction f with
  | zero=>intro n W v h;cases n;rw[sizeN] at h;omega
  | succ f ih =>
    intro n W v hf h9 hv
    cases hv with
    | mk k a e x B m d vs l hvs hlen hr =>
      have HR:=jj hr;have HV:=jj hvs;have Hl:=jj hlen;have hmd:=hvs.1;have hdd:=hvs.2.1;rw[sizeN] at hf h9;have HS:=jj (show jde (.mk k x a e l)=jd3 l+1 by rw[jde]);have HB:=jj (jak (Below.refl W.heap.size W) (.cells #[.int .i64 k,.string (bs x),.int .i64 a,.int .i64 e,.slice B m d] 25));have HF:=jj (ja6 W (.int .i64 k) (.string (bs x)) (.int .i64 a) (.int .i64 e) (.slice B m d) 25);have IH:=jj ih;have hds:=jj8 l;clear hr hvs hlen ih;go_enter Tryz.func23,Tryz.ntmps23;go_wp2_with fail;generalize hW1:W.alloc (.cells #[.int .i64 k,.string (bs x),.int .i64 a,.int .i64 e,.slice B m d] 25)=w1 at HB HF ⊢;clear hW1
      go_loopw [3,4] (fun u y wr=>∃i:Nat,i≤m∧u=.int .i64 ((jd3 (l.take i):Nat):Int)∧y=.int .i64 (i:Int)∧Below w1.heap.size w1 wr) (fun _ y _=>m - (intOf y).toNat)
      case atStart=>exact ⟨0,Nat.zero_le _,rfl,rfl,Below.refl _ _⟩
      case round =>
        obtain ⟨i,hi,rfl,rfl,hb⟩:=hrel;rename_i wr _;obtain ⟨-,-,-,-,-,f4⟩:=HF.out.keep hb;have hbw:=bgo HB.out hb;by_cases hlt:i<m
        · (have hki:(i:Int)<(m:Int):=by omega);obtain ⟨g,o,c0,c1,c2,c3,c4,rfl,hvi,x0,x1,x2,x3,x4⟩:=(HV.out.below hbw).at_ hlt;obtain ⟨y,hy⟩:∃y,l[i]?=some y:=⟨_,List.getElem?_eq_getElem (by rw[Hl.out];exact hlt)⟩;obtain ⟨s1,s2⟩:=jdj hy;have s3:=depthL_take hy;obtain ⟨Z,hZ⟩:=jx (jd3 (l.take i));obtain ⟨Y,hY⟩:=jx (jde y);have HC:=jj (IH.out y wr _ (by omega) (by omega) ((HR.out i _ y hvi hy).kept hbw));rw[hY] at HC s3;rw[hZ] at s3 ⊢;have HC:=jj HC.out;have Hs:=jj (show max (Z:Int) (Y:Int)=((jd3 (l.take (i+1)):Nat):Int) by rw[s3];omega);have Hb:=jj hb;clear hvi hy s1 s2 s3 hZ hY hb hbw hf h9 hds;go_wp2_with fail;(with_reducible refine HC.out.mono ?_);rintro e2 w2 ⟨rfl,hb2⟩;have Hb2:=jj (bgo Hb.out hb2);clear hb2 x0 x1 x2 x3 x4 f4;go_wp2;go_roundw
          case rel=>exact ⟨i+1,by omega,by rw[←Hs.out],by go_num,Hb2.out⟩
          case measure=>simp[intOf];omega
        · (have hki:¬(i:Int)<(m:Int):=by omega);(have hz:jd3 (l.take i)=jd3 l:=by rw[List.take_of_length_le (by rw[Hl.out];omega)]);obtain ⟨Z,hZ⟩:=jx (jd3 (l.take i));have Hz:=jj (show (Z:Int)+1=(jde (.mk k x a e l):Int) by rw[HS.out];omega);(have hZ9:Z≤1000000000:=by omega);rw[hZ];have Hb:=jj hbw;clear hb hbw hZ hz hds hf h9;go_wp2;go_ret;exact ⟨congrArg (fun z=>Ending.returned (.int .i64 z)) Hz.out,Hb.out⟩
end
end Go.Proofs.YtonoklmobocikaaGreatDoor
