/- Lemmas. -/
import Derived.Test.YtonoklmobocikaaGreatDoorK32
set_option linter.unusedVariables false
set_option linter.unusedSimpArgs false
set_option maxRecDepth 20000
set_option maxHeartbeats 6400000
namespace Go.Proofs.YtonoklmobocikaaGreatDoor
section
open Go.RowKit
theorem aroundL_take {off:Int}:∀{l:List Nd} {i:Nat} {y:Nd},l[i]?=some y→jcv off (l.take i)=[]→(∀j<i,∀z,l[j]?=some z→(jcz off z).length=0) →
    ((jcz off y).length=0→jcv off (l.take (i+1))=[])∧(¬(jcz off y).length=0→jcv off l=jcz off y):=by
  intro l
  induction l with
  | nil=>intro i y h;simp at h
  | cons n l ih =>
    intro i y h h0 hz
    cases i with
    | zero =>
      simp at h;subst h;refine ⟨fun h1=>?_,fun h1=>?_⟩
      · rw[List.take_succ_cons,List.take_zero,jcv,if_pos h1,jcv]
      · rw[jcv,if_neg h1]
    | succ i =>
      have hn:(jcz off n).length=0:=hz 0 (Nat.succ_pos i) n rfl;rw[List.take_succ_cons,jcv,if_pos hn] at h0;have:=ih (i:=i) (y:=y) (by simpa using h) h0 (fun j hj z hz'=>hz (j+1) (by omega) z (by simpa using hz'));rw[List.take_succ_cons,jcv,if_pos hn,jcv,if_pos hn];exact this
theorem owns_far {w w':World} {v v' u:Value} {B e:Nat} {sz n:Nat} {xs:List Value} (h:w.ownsRow B e sz u n xs) (hf:Far w w' v v') (hne:∀g,u.ownBlock=some g→v.ownBlock≠some g):w'.ownsRow B e sz u n xs:=by
  obtain ⟨h1,h2⟩:=h;refine ⟨h1,?_⟩;rcases h2 with h2 | ⟨g,cap,cur,rfl,hg,hh,r⟩
  · exact Or.inl h2
  · exact Or.inr ⟨g,cap,cur,rfl,hg,(hf.2 g (blk_lt hh) (hne g rfl)).1.trans hh,r⟩
theorem OwnQ.low {W:World} {B B':Nat} {q:Nat→Prop} {v:Value} {xs:List Nd} (h:OwnQ W B q v xs) (hB:B'≤B):OwnQ W B' q v xs:=by
  obtain ⟨cs,vs,h1,h2,h3,h4⟩:=h;exact ⟨cs,vs,jk0 h1 hB,h2,h3,h4⟩
theorem OwnQ.far {w w':World} {B B1:Nat} {q:Nat→Prop} {u v v':Value} {ys:List Nd} (h:OwnQ w B1 q u ys) (hf:Far w w' v v') (hv:∀g,v.ownBlock=some g→B≤g) (hq:∀g,q g→g<B) (hne:∀g,u.ownBlock=some g→v.ownBlock≠some g) :
    OwnQ w' B1 q u ys∧∀g,u.ownBlock=some g→v'.ownBlock≠some g:=by
  have hlt:∀g,u.ownBlock=some g→g<w.heap.size:=fun g hg=>(h.base hg).2;obtain ⟨cs,vs,h1,h2,h3,h4⟩:=h;refine ⟨⟨cs,vs,owns_far h1 hf hne,h2,h3,fun i z x hz hx=>(h4 i z x hz hx).map (fun p hp hl=>World.cell?_of_block (hf.2 p.block hl fun e=>by have:=hv _ e;have:=hq _ hp.1;omega).1) fun g hg _=>hg⟩,fun g hg=>(hf.2 g (hlt g hg) (hne g hg)).2⟩
theorem rNodes:∀(f:Nat) (n:Nd) (W:World) (ok:Nat→Prop) (v:Value),sizeN n≤f→sizeN n≤1000000000→NdV W ok v n →
    Calls Tryz.prog 26 #[v] W fun e w'=>∃A m d,e=.returned (.slice A m d)∧OwnQ w' W.heap.size (fun g=>ok g∧g<W.heap.size) (.slice A m d) (jca n)∧Below W.heap.size W w':=by
  intro f;obtain ⟨i0,hi0,hz0,hz1,hz2⟩:=info_parts jfd
  induction f with
  | zero=>intro n W ok v h;cases n;rw[sizeN] at h;omega
  | succ f ih =>
    intro n W ok v hf h9 hv
    cases hv with
    | mk k a e x B m d vs l hvs hlen hr =>
    have hT:NdS W ok B m d l:=⟨vs,hvs,hlen,hr⟩;have hmd:=hvs.1;have hdd:=hvs.2.1;rw[sizeN] at hf h9;have IH:=jj ih;have Hlen:=jj hlen;have hb1:=jak (Below.refl W.heap.size W) (.cells #[.int .i64 k,.string (bs x),.int .i64 a,.int .i64 e,.slice B m d] 25);have hF:=ja6 W (.int .i64 k) (.string (bs x)) (.int .i64 a) (.int .i64 e) (.slice B m d) 25;have hT0:=hT.map (ok':=fun g=>ok g∧g<W.heap.size) (W':=W) (fun _ _ _=>rfl) (fun g h hl=>⟨h,hl⟩);obtain ⟨w1,hw1⟩:=jx (W.alloc (.cells #[.int .i64 k,.string (bs x),.int .i64 a,.int .i64 e,.slice B m d] 25));(have hs1:w1.heap.size=W.heap.size+1:=by rw[←hw1];simp);rw[hw1] at hb1 hF;have hO:=jmw (w:=w1) (B:=W.heap.size+1) (q:=fun g=>ok g∧g<W.heap.size) (by omega) ((hT0.kept hb1).node k a e x) (W.heap.size+1) hs1.symm;have hb2:=jak (Below.refl w1.heap.size w1) (.cells #[.int .i64 k,.string (bs x),.int .i64 a,.int .i64 e,.slice B m d] 25);obtain ⟨w2,hw2⟩:=jx (w1.alloc (.cells #[.int .i64 k,.string (bs x),.int .i64 a,.int .i64 e,.slice B m d] 25));rw[hw2] at hO hb2;have HT:=jj hT0;have HF:=jj hF;have HB1:=jj hb1;have HB2:=jj hb2;have HO:=jj hO;have HW1:=jj hw1;have HW2:=jj hw2;have HS1:=jj hs1;clear hT hT0 hvs hlen hr ih hb1 hb2 hF hO hw1 hw2 hs1;go_enter Tryz.func26,Tryz.ntmps26;go_upto_region 1 with fail;rw[HW1.out];obtain ⟨-,t0,t1,t2,t3,t4⟩:=HF.out;go_upto_region 2 with fail;rw[HW2.out,HS1.out];clear t0 t1 t2 t3 t4;go_wp2_with fail
    go_loopw [3,4] (fun u y wr=>∃i:Nat,i≤m∧y=.int .i64 (i:Int)∧OwnQ wr (W.heap.size+1) (fun g=>ok g∧g<W.heap.size) u (.mk k x a e l :: jc7 (l.take i))∧Below w1.heap.size w1 wr) (fun _ y _=>m - (intOf y).toNat)
    case atStart=>exact ⟨0,Nat.zero_le _,rfl,by rw[List.take_zero,jc7];exact HO.out,HB2.out⟩
    case round =>
      obtain ⟨i,hi,rfl,ho,hb⟩:=hrel;obtain ⟨w3,hw3⟩:∃w3,w3=wr:=⟨wr,rfl⟩;subst hw3;obtain ⟨A0,m0,d0,vs0,rfl,-⟩:=ho.s (fun _=>True) (fun _ _=>trivial) (fun _ _ _=>trivial);have hbw:=bgo HB1.out hb;obtain ⟨-,-,-,-,-,f4⟩:=HF.out.keep hb;have HO3:=jj ho;have HB3:=jj hb;have HBW:=jj hbw;clear HO HB2 HW1 HW2;by_cases hlt:i<m
      · (have hki:(i:Int)<(m:Int):=by omega);obtain ⟨g,o,y,yA,ym,yd,rfl,hy,ry,x0,x1,x2,x3,x4⟩:=(HT.out.kept hbw).at_ hlt;obtain ⟨s1,s2⟩:=jdj hy;have HC:=jj (IH.out y w3 (fun g=>ok g∧g<W.heap.size) _ (by omega) (by omega) (jb7 ry));have HNx:=jj (nodesL_take hy)
        have HLn:=jj (show (Nd.mk k x a e l :: jc7 (l.take i)).length+(jca y).length≤1000000000 by
          rw[List.length_cons,jkm,nodes_len];omega)
        clear hy ry s1 s2 ho hb hbw;go_wp2_with fail;(with_reducible refine HC.out.mono ?_);rintro e4 w4 ⟨kA,km,kd,rfl,hk4,hb4⟩;have hkl:=(hk4.s (fun _=>True) (fun _ _=>trivial) (fun _ _ _=>trivial));obtain ⟨kA',km',kd',kvs,hek,hkm,-⟩:=hkl;cases hek;have hmd4:True:=trivial;obtain ⟨ys,hys⟩:=jx (jca y);obtain ⟨acc,hacc⟩:=jx ((Nd.mk k x a e l :: jc7 (l.take i)));rw[hys] at hk4 hkm HNx HLn;rw[hacc] at HO3 HLn;have HEx:=jj (show Nd.mk k x a e l :: jc7 (l.take (i+1))=acc++ys by rw[HNx.out,←hacc];rfl);have K4:=jj (hk4.weak (q':=fun g=>ok g∧g<W.heap.size) fun g hg=>hg.1);have O4:=jj (HO3.out.below hb4)
        have HNe:=jj (show ∀g,(Value.slice kA km kd).ownBlock=some g→(Value.slice A0 m0 d0).ownBlock≠some g from fun g hg he=>by
          have h1:=(hk4.base hg).1;have h2:=(HO3.out.base he).2
          omega)
        have HB4:=jj (HB3.out.trans (hb4.mono HB3.out.size));have Hkm:=jj hkm;(have hkm9:km≤1000000000:=by have:=HLn.out;omega);have HBs:=jj hb4.size;clear hk4 hb4 hys hacc hkm HC HNx x0 x1 x2 x3 x4 f4 hmd4;go_wp2_with fail
        go_loopw [3,6] (fun u z wr=>∃j:Nat,j≤km∧z=.int .i64 (j:Int)∧OwnQ wr (W.heap.size+1) (fun g=>ok g∧g<W.heap.size) u (acc++ys.take j)∧OwnQ wr w3.heap.size (fun g=>ok g∧g<W.heap.size) (.slice kA km kd) ys∧(∀g,(Value.slice kA km kd).ownBlock=some g→u.ownBlock≠some g)∧Below w1.heap.size w1 wr) (fun _ z _=>km - (intOf z).toNat)
        case atStart=>exact ⟨0,Nat.zero_le _,rfl,by rw[List.take_zero,List.append_nil];exact O4.out,K4.out,HNe.out,HB4.out⟩
        case round =>
          obtain ⟨j,hj,rfl,hoj,hkj,hne,hbj⟩:=hrel;obtain ⟨w5,hw5⟩:∃w5,w5=wr:=⟨wr,rfl⟩;subst hw5;obtain ⟨A1,m1,d1,vs1,rfl,-⟩:=hoj.s (fun _=>True) (fun _ _=>trivial) (fun _ _ _=>trivial);have O5:=jj hoj;have K5:=jj hkj;have N5:=jj hne;have B5:=jj hbj;clear O4 K4 HNe HB4;by_cases hjm:j<km
          · (have hjj:(j:Int)<(km:Int):=by omega);obtain ⟨g2,o2,z,zA,zm,zd,rfl,hz,rz,x0,x1,x2,x3,x4⟩:=hkj.at_ hjm
            have HTk:=jj (show ys.take (j+1)=ys.take j++[z] by
              obtain ⟨h1,e⟩:=List.getElem?_eq_some_iff.1 hz
              rw[List.take_succ_eq_append_getElem h1,e])
            have HZ:=jj ((jb7 rz).map (W':=w5) (ok':=fun g=>(ok g∧g<W.heap.size)∧(Value.slice A1 m1 d1).ownBlock≠some g) (fun _ _ _=>rfl) (fun g hg _=>⟨hg,fun he=>by have:=(O5.out.base he).1;omega⟩))
            have HLj:=jj (show (acc++ys.take j).length≤1000000000 by
              have:=HLn.out
              rw[List.length_append,List.length_take];omega)
            clear hz rz hoj hkj hne hbj;go_wp2_with (at_builtin;refine je7 rfl (.tmp 28) (.tmp 33) 23 rfl i0 _ 64 Tryz.underlying23 hi0 hz0 hz1 hz2 rfl (W.heap.size+1) (fun g=>ok g∧g<W.heap.size) (.slice A1 m1 d1) (acc++ys.take j) rfl w5 _ _ _ _ _ z O5.out (by have:=B5.out.size;have:=HS1.out;omega) _ rfl rfl HZ.out (by have:=HLj.out;omega) (by have:=HLj.out;unfold maxLen;omega) ?_);intro v6 w6 ho6 b6 far6;obtain ⟨A6,m6,d6,vs6,rfl,-⟩:=ho6.s (fun _=>True) (fun _ _=>trivial) (fun _ _ _=>trivial);obtain ⟨hk6,hn6⟩:=K5.out.far (B:=W.heap.size+1) far6 (fun g hg=>(O5.out.base hg).1) (fun g hg=>by omega) N5.out;have O6:=jj (show OwnQ w6 (W.heap.size+1) (fun g=>ok g∧g<W.heap.size) (.slice A6 m6 d6) (acc++ys.take (j+1)) by rw[HTk.out];first | exact ho6 | (rw[←List.append_assoc];exact ho6));have K6:=jj hk6;have N6:=jj hn6;have B6:=jj (B5.out.trans (b6.mono (by have:=HS1.out;omega)));clear ho6 b6 far6 hk6 hn6;go_wp2;go_roundw
            case rel=>exact ⟨j+1,by omega,by go_num,O6.out,K6.out,N6.out,B6.out⟩
            case measure=>simp[intOf];omega
          · (have hjj:¬(j:Int)<(km:Int):=by omega);have HE2:=jj (show acc++ys.take j=acc++ys by rw[List.take_of_length_le (by have:=Hkm.out;omega)]);have O6:=jj (show OwnQ w5 (W.heap.size+1) (fun g=>ok g∧g<W.heap.size) (.slice A1 m1 d1) (Nd.mk k x a e l :: jc7 (l.take (i+1))) by rw[HEx.out,←HE2.out];exact O5.out);clear hoj hkj hne hbj;go_wp2;go_roundw
            case rel=>exact ⟨i+1,by omega,by go_num,O6.out,B5.out⟩
            case measure=>simp[intOf];omega
      · (have hki:¬(i:Int)<(m:Int):=by omega);have HE:=jj (show Nd.mk k x a e l :: jc7 (l.take i)=jca (.mk k x a e l) by rw[List.take_of_length_le (by rw[Hlen.out];omega),jca]);have HR:=jj (ho.low (Nat.le_succ W.heap.size));clear ho hb hbw;go_wp2;go_ret;exact ⟨A0,m0,d0,rfl,by rw[←HE.out];exact HR.out,HBW.out⟩
end
section
open Go.RowKit
theorem rAround (off:Int):∀(f:Nat) (n:Nd) (W:World) (ok:Nat→Prop) (v:Value),sizeN n≤f→sizeN n≤1000000000→NdV W ok v n →
    Calls Tryz.prog 28 #[v,.int .i64 off] W fun e w'=>∃A m d,e=.returned (.slice A m d)∧OwnQ w' W.heap.size (fun g=>ok g∧g<W.heap.size) (.slice A m d) (jcz off n)∧Below W.heap.size W w':=by
  intro f;obtain ⟨i0,hi0,hz0,hz1,hz2⟩:=info_parts jfd
  induction f with
  | zero=>intro n W ok v h;cases n;rw[sizeN] at h;omega
  | succ f ih =>
    intro n W ok v hf h9 hv
    cases hv with
    | mk k a e x B m d vs l hvs hlen hr =>
    have hT:NdS W ok B m d l:=⟨vs,hvs,hlen,hr⟩;have hmd:=hvs.1;have hdd:=hvs.2.1;rw[sizeN] at hf h9;have IH:=jj ih;have Hlen:=jj hlen;have hb1:=jak (Below.refl W.heap.size W) (.cells #[.int .i64 k,.string (bs x),.int .i64 a,.int .i64 e,.slice B m d] 25);have hF:=ja6 W (.int .i64 k) (.string (bs x)) (.int .i64 a) (.int .i64 e) (.slice B m d) 25;have hT0:=hT.map (ok':=fun g=>ok g∧g<W.heap.size) (W':=W) (fun _ _ _=>rfl) (fun g h hl=>⟨h,hl⟩);obtain ⟨w1,hw1⟩:=jx (W.alloc (.cells #[.int .i64 k,.string (bs x),.int .i64 a,.int .i64 e,.slice B m d] 25));(have hs1:w1.heap.size=W.heap.size+1:=by rw[←hw1];simp);rw[hw1] at hb1 hF;have hO:=jmw (w:=w1) (B:=W.heap.size+1) (q:=fun g=>ok g∧g<W.heap.size) (by omega) ((hT0.kept hb1).node k a e x) (W.heap.size+1) hs1.symm;have hb2:=jak (Below.refl w1.heap.size w1) (.cells #[.int .i64 k,.string (bs x),.int .i64 a,.int .i64 e,.slice B m d] 25);obtain ⟨w2,hw2⟩:=jx (w1.alloc (.cells #[.int .i64 k,.string (bs x),.int .i64 a,.int .i64 e,.slice B m d] 25));rw[hw2] at hO hb2;have HT:=jj hT0;have HF:=jj hF;have HB1:=jj hb1;have HB2:=jj hb2;have HO:=jj hO;have HW1:=jj hw1;have HW2:=jj hw2;have HS1:=jj hs1;obtain ⟨R,hR⟩:=jx (jcz off (.mk k x a e l));rw[hR];have HR:=jj hR;clear hT hT0 hvs hlen hr ih hb1 hb2 hF hO hw1 hw2 hs1 hR;by_cases ha:a≤off
    case neg =>
      have d1:decide (off<a)=true:=decide_eq_true (by omega);have HE:=jj (show []=R by rw[←HR.out,jcz,if_neg (by omega)]);obtain ⟨-,t0,t1,t2,t3,t4⟩:=HF.out;clear ha;go_enter Tryz.func28,Tryz.ntmps28;go_upto_region 1 with fail;rw[HW1.out];go_wp2;go_ret;exact ⟨none,0,0,rfl,by rw[←HE.out];exact OwnQ.nil _ _ _,HB1.out⟩
    have d1:decide (off<a)=false:=decide_eq_false (by omega);by_cases he:off<e
    case neg =>
      have d2:decide (off≥e)=true:=decide_eq_true (by omega);have d3:decide (e≤off)=true:=decide_eq_true (by omega);have HE:=jj (show []=R by rw[←HR.out,jcz,if_neg (by omega)]);obtain ⟨-,t0,t1,t2,t3,t4⟩:=HF.out;clear ha he;go_enter Tryz.func28,Tryz.ntmps28;go_upto_region 1 with fail;rw[HW1.out];go_wp2;go_ret;exact ⟨none,0,0,rfl,by rw[←HE.out];exact OwnQ.nil _ _ _,HB1.out⟩
    have d2:decide (off≥e)=false:=decide_eq_false (by omega);have d3:decide (e≤off)=false:=decide_eq_false (by omega);have HE:=jj (show R=.mk k x a e l :: jcv off l by rw[←HR.out,jcz,if_pos ⟨ha,he⟩]);clear ha he;go_enter Tryz.func28,Tryz.ntmps28;go_upto_region 1 with fail;rw[HW1.out];obtain ⟨-,t0,t1,t2,t3,t4⟩:=HF.out;go_upto_region 4 with fail;rw[HW2.out,HS1.out];clear t0 t1 t2 t3 t4;go_wp2_with fail
    go_loopw [5,6] (fun u y wr=>∃i:Nat,i≤m∧u=.slice (some ⟨W.heap.size+1,0,none⟩) 1 1∧y=.int .i64 (i:Int)∧OwnQ wr (W.heap.size+1) (fun g=>ok g∧g<W.heap.size) (.slice (some ⟨W.heap.size+1,0,none⟩) 1 1) [.mk k x a e l]∧Below w1.heap.size w1 wr∧jcv off (l.take i)=[]∧∀j<i,∀z,l[j]?=some z→(jcz off z).length=0) (fun _ y _=>m - (intOf y).toNat)
    case atStart=>exact ⟨0,Nat.zero_le _,rfl,rfl,HO.out,HB2.out,by rw[List.take_zero,jcv],fun j hj=>absurd hj (Nat.not_lt_zero j)⟩
    case round =>
      obtain ⟨i,hi,rfl,rfl,ho,hb,hno,hzz⟩:=hrel;obtain ⟨w3,hw3⟩:∃w3,w3=wr:=⟨wr,rfl⟩;subst hw3;have hbw:=bgo HB1.out hb;obtain ⟨-,-,-,-,-,f4⟩:=HF.out.keep hb;have HO3:=jj ho;have HB3:=jj hb;have HBW:=jj hbw;have Hno:=jj hno;have Hzz:=jj hzz;clear HO HB2 HW1 HW2;by_cases hlt:i<m
      · (have hki:(i:Int)<(m:Int):=by omega);obtain ⟨g,o,y,yA,ym,yd,rfl,hy,ry,x0,x1,x2,x3,x4⟩:=(HT.out.kept hbw).at_ hlt;obtain ⟨s1,s2⟩:=jdj hy;have HC:=jj (IH.out y w3 (fun g=>ok g∧g<W.heap.size) _ (by omega) (by omega) (jb7 ry));have hal:=jmp off y;obtain ⟨n1,n2⟩:=aroundL_take hy hno hzz;(have hyl:(jcz off y).length≤1000000000:=by omega);obtain ⟨ys,hys⟩:=jx (jcz off y);have HY:=jj (show ∀z,l[i]?=some z→(jcz off z).length=ys.length from fun z hz=>by rw[hy] at hz;cases hz;rw[hys]);rw[hys] at HC n1 n2 hyl;have N1:=jj n1;have N2:=jj n2;have HYl:=jj hyl;clear hy ry s1 s2 ho hb hbw hal n1 n2 hys hno hzz hyl;go_wp2_with fail;(with_reducible refine HC.out.mono ?_);rintro e4 w4 ⟨kA,km,kd,rfl,hk4,hb4⟩;have hkl:=(hk4.s (fun _=>True) (fun _ _=>trivial) (fun _ _ _=>trivial));obtain ⟨kA',km',kd',kvs,hek,hkm,-⟩:=hkl;cases hek;have O4:=jj (HO3.out.below hb4);have HB4:=jj (HB3.out.trans (hb4.mono HB3.out.size));have Hkm:=jj hkm;(have hkm9:km≤1000000000:=by have:=HYl.out;omega);by_cases hk0:km=0
        · have d4:decide ((km:Int) > 0)=false:=decide_eq_false (by omega);have d5:decide ((0:Int)<(km:Int))=false:=decide_eq_false (by omega);have d6:decide (0<km)=false:=decide_eq_false (by omega);(have d7:¬0<km:=by omega);have HN:=jj (show jcv off (l.take (i+1))=[] from N1.out (by rw[←Hkm.out];exact hk0))
          have HZ:=jj (show ∀j<i+1,∀z,l[j]?=some z→(jcz off z).length=0 from fun j hj z hz=>by
            rcases Nat.lt_or_ge j i with h1 | h1
            · exact Hzz.out j h1 z hz
            · obtain rfl:j=i:=by omega
              rw[HY.out z hz,←Hkm.out];exact hk0)
          clear hk4 hb4 hkm HC x0 x1 x2 x3 x4 f4 hk0;go_wp2;go_roundw
          case rel=>exact ⟨i+1,by omega,rfl,by go_num,O4.out,HB4.out,HN.out,HZ.out⟩
          case measure=>simp[intOf];omega
        have d4:decide ((km:Int) > 0)=true:=decide_eq_true (by omega);have d5:decide ((0:Int)<(km:Int))=true:=decide_eq_true (by omega);have d6:decide (0<km)=true:=decide_eq_true (by omega);(have d7:0<km:=by omega);have HFin:=jj (show [Nd.mk k x a e l]++ys=R by rw[HE.out,N2.out (by rw[←Hkm.out];exact hk0)];rfl);have K4:=jj (hk4.weak (q':=fun g=>ok g∧g<W.heap.size) fun g hg=>hg.1)
        have HNe:=jj (show ∀g,(Value.slice kA km kd).ownBlock=some g→(Value.slice (some ⟨W.heap.size+1,0,none⟩) 1 1).ownBlock≠some g from fun g hg he=>by
          have h1:=(hk4.base hg).1;have h2:=(HO3.out.base he).2
          omega)
        have HBs:=jj hb4.size;clear hk4 hb4 hkm HC x0 x1 x2 x3 x4 f4 hk0;go_wp2_with fail
        go_loopw [5,8] (fun u z wr=>∃j:Nat,j≤km∧z=.int .i64 (j:Int)∧OwnQ wr (W.heap.size+1) (fun g=>ok g∧g<W.heap.size) u ([.mk k x a e l]++ys.take j)∧OwnQ wr w3.heap.size (fun g=>ok g∧g<W.heap.size) (.slice kA km kd) ys∧(∀g,(Value.slice kA km kd).ownBlock=some g→u.ownBlock≠some g)∧Below w1.heap.size w1 wr) (fun _ z _=>km - (intOf z).toNat)
        case atStart=>exact ⟨0,Nat.zero_le _,rfl,by rw[List.take_zero,List.append_nil];exact O4.out,K4.out,HNe.out,HB4.out⟩
        case round =>
          obtain ⟨j,hj,rfl,hoj,hkj,hne,hbj⟩:=hrel;obtain ⟨w5,hw5⟩:∃w5,w5=wr:=⟨wr,rfl⟩;subst hw5;obtain ⟨A1,m1,d1',vs1,rfl,-⟩:=hoj.s (fun _=>True) (fun _ _=>trivial) (fun _ _ _=>trivial);have O5:=jj hoj;have K5:=jj hkj;have N5:=jj hne;have B5:=jj hbj;clear O4 K4 HNe HB4;by_cases hjm:j<km
          · (have hjj:(j:Int)<(km:Int):=by omega);obtain ⟨g2,o2,z,zA,zm,zd,rfl,hz,rz,x0,x1,x2,x3,x4⟩:=hkj.at_ hjm
            have HTk:=jj (show ys.take (j+1)=ys.take j++[z] by
              obtain ⟨h1,e⟩:=List.getElem?_eq_some_iff.1 hz
              rw[List.take_succ_eq_append_getElem h1,e])
            have HZ:=jj ((jb7 rz).map (W':=w5) (ok':=fun g=>(ok g∧g<W.heap.size)∧(Value.slice A1 m1 d1').ownBlock≠some g) (fun _ _ _=>rfl) (fun g hg _=>⟨hg,fun he=>by have:=(O5.out.base he).1;omega⟩))
            have HLj:=jj (show ([Nd.mk k x a e l]++ys.take j).length≤1000000001 by
              have:=HYl.out
              rw[List.length_append,List.length_take,List.length_singleton];omega)
            clear hz rz hoj hkj hne hbj;go_wp2_with (at_builtin;refine je7 rfl (.tmp 44) (.tmp 49) 23 rfl i0 _ 64 Tryz.underlying23 hi0 hz0 hz1 hz2 rfl (W.heap.size+1) (fun g=>ok g∧g<W.heap.size) (.slice A1 m1 d1') ([.mk k x a e l]++ys.take j) rfl w5 _ _ _ _ _ z O5.out (by have:=B5.out.size;have:=HS1.out;omega) _ rfl rfl HZ.out (by have:=HLj.out;omega) (by have:=HLj.out;unfold maxLen;omega) ?_);intro v6 w6 ho6 b6 far6;obtain ⟨A6,m6,d6,vs6,rfl,-⟩:=ho6.s (fun _=>True) (fun _ _=>trivial) (fun _ _ _=>trivial);obtain ⟨hk6,hn6⟩:=K5.out.far (B:=W.heap.size+1) far6 (fun g hg=>(O5.out.base hg).1) (fun g hg=>by omega) N5.out;have O6:=jj (show OwnQ w6 (W.heap.size+1) (fun g=>ok g∧g<W.heap.size) (.slice A6 m6 d6) ([.mk k x a e l]++ys.take (j+1)) by rw[HTk.out];first | exact ho6 | (rw[←List.append_assoc];exact ho6));have K6:=jj hk6;have N6:=jj hn6;have B6:=jj (B5.out.trans (b6.mono (by have:=HS1.out;omega)));clear ho6 b6 far6 hk6 hn6;go_wp2;go_roundw
            case rel=>exact ⟨j+1,by omega,by go_num,O6.out,K6.out,N6.out,B6.out⟩
            case measure=>simp[intOf];omega
          · (have hjj:¬(j:Int)<(km:Int):=by omega);have HE2:=jj (show [Nd.mk k x a e l]++ys.take j=R by rw[List.take_of_length_le (by have:=Hkm.out;omega),HFin.out]);have BF:=jj (bgo HB1.out hbj);clear hoj hkj hne hbj;go_wp2;go_ret;exact ⟨A1,m1,d1',rfl,by rw[←HE2.out];exact O5.out.low (Nat.le_succ _),BF.out⟩
      · (have hki:¬(i:Int)<(m:Int):=by omega);have HE2:=jj (show [Nd.mk k x a e l]=R by rw[HE.out];rw[List.take_of_length_le (by rw[Hlen.out];omega)] at hno;rw[hno]);have HR2:=jj (ho.low (Nat.le_succ W.heap.size));clear ho hb hbw hno hzz;go_wp2;go_ret;exact ⟨_,_,_,rfl,by rw[←HE2.out];exact HR2.out,HBW.out⟩
end
section
open Go.RowKit
theorem law6 {nk na ne:Int} {nx:List UInt8} {nl:List Nd} {nB:Option Addr} {nm nd:Nat} {ok:Nat→Prop} (off:Int) (w:World) (hn:NdS w ok nB nm nd nl) (hs:sizeN (Nd.mk nk nx na ne nl)≤4000000) :
    Calls Tryz.prog 6 #[(.agg #[.int .i64 nk,.string (bs nx),.int .i64 na,.int .i64 ne,.slice nB nm nd]),.int .i64 off] w fun en w'=>en=.returned (.bool true)∧Below w.heap.size w w':=by
  have HA:=jj (fun W=>jla W);have b1:=jak (Below.refl w.heap.size w) (.cells #[.int .i64 nk,.string (bs nx),.int .i64 na,.int .i64 ne,.slice nB nm nd] 25);have f1:=ja6 w (.int .i64 nk) (.string (bs nx)) (.int .i64 na) (.int .i64 ne) (.slice nB nm nd) 25;obtain ⟨w2,hw2⟩:=jx (w.alloc (.cells #[.int .i64 nk,.string (bs nx),.int .i64 na,.int .i64 ne,.slice nB nm nd] 25));rw[hw2] at b1 f1;have B2:=jj b1;have F1:=jj f1;have HW:=jj hw2;have V1:=jj ((hn.any.kept b1).node nk na ne nx);have Hs:=jj hs;obtain ⟨q3,hq3⟩:∃q,sizeN (Nd.mk nk nx na ne nl)=q:=⟨_,rfl⟩;(have hq9:q3≤4000000:=by rw[←hq3];exact hs);have KS:=jj (fun (X:World) (h:NdV X (fun _=>True) (.agg #[.int .i64 nk,.string (bs nx),.int .i64 na,.int .i64 ne,.slice nB nm nd]) (Nd.mk nk nx na ne nl))=>rsize _ _ X _ (Nat.le_refl _) (by have:=Hs.out;omega) h);rw[hq3] at KS;clear b1 f1 hw2 hn hs hq3;go_enter Tryz.func6,Tryz.ntmps6;go_upto_region 1 with fail;rw[HW.out];go_wp2_with fail;(with_reducible refine (HA.out _).mono ?_);rintro en w3 ⟨rfl,b3⟩;have C3:=jj b3;obtain ⟨-,t0,t1,t2,t3,t4⟩:=F1.out.keep b3;clear b3;go_wp2_with fail;(with_reducible refine (KS.out _ (V1.out.kept C3.out)).mono ?_);rintro en w4 ⟨rfl,b4⟩;have C4:=jj (bgo C3.out b4);have B4:=jj (bgo B2.out C4.out);clear b4 t0 t1 t2 t3 t4;by_cases h3:300<q3
  · (have hg:(300:Int)<(q3:Int):=by omega);have hg2:(q3:Int) > 300:=hg;go_wp2;go_ret;exact ⟨rfl,B4.out⟩
  (have hg:¬(300:Int)<(q3:Int):=by omega);have hg2:¬(q3:Int) > 300:=hg;go_upto_region 5 with fail;obtain ⟨x,hx⟩:∃x,x=w4:=⟨_,rfl⟩;subst hx
  have HK:=jj (show ∀X:World,Below x.heap.size x X→(X.cell? ⟨w.heap.size,0,none⟩=some (.int .i64 nk)∧X.cell? ⟨w.heap.size,1,none⟩=some (.string (bs nx))∧X.cell? ⟨w.heap.size,2,none⟩=some (.int .i64 na)∧X.cell? ⟨w.heap.size,3,none⟩=some (.int .i64 ne)∧X.cell? ⟨w.heap.size,4,none⟩=some (.slice nB nm nd))∧Below x.heap.size x X from fun X hb=>by
    obtain ⟨-,u0,u1,u2,u3,u4⟩:=(F1.out.keep C4.out).keep hb
    exact ⟨⟨u0,u1,u2,u3,u4⟩,hb⟩)
  have HS0:=jj (jba x);have HKs:=jj (show ∀X Y:World,(X.cell? ⟨w.heap.size,0,none⟩=some (.int .i64 nk)∧X.cell? ⟨w.heap.size,1,none⟩=some (.string (bs nx))∧X.cell? ⟨w.heap.size,2,none⟩=some (.int .i64 na)∧X.cell? ⟨w.heap.size,3,none⟩=some (.int .i64 ne)∧X.cell? ⟨w.heap.size,4,none⟩=some (.slice nB nm nd))∧Below x.heap.size x X→Below X.heap.size X Y→(Y.cell? ⟨w.heap.size,0,none⟩=some (.int .i64 nk)∧Y.cell? ⟨w.heap.size,1,none⟩=some (.string (bs nx))∧Y.cell? ⟨w.heap.size,2,none⟩=some (.int .i64 na)∧Y.cell? ⟨w.heap.size,3,none⟩=some (.int .i64 ne)∧Y.cell? ⟨w.heap.size,4,none⟩=some (.slice nB nm nd))∧Below x.heap.size x Y from fun X Y h hb=>HK.out Y (bgo h.2 hb));have HKb:=jj (show ∀X:World,(X.cell? ⟨w.heap.size,0,none⟩=some (.int .i64 nk)∧X.cell? ⟨w.heap.size,1,none⟩=some (.string (bs nx))∧X.cell? ⟨w.heap.size,2,none⟩=some (.int .i64 na)∧X.cell? ⟨w.heap.size,3,none⟩=some (.int .i64 ne)∧X.cell? ⟨w.heap.size,4,none⟩=some (.slice nB nm nd))∧Below x.heap.size x X→Below x.heap.size x X from fun X h=>h.2);have HN:=jj (show ∀X:World,(X.cell? ⟨w.heap.size,0,none⟩=some (.int .i64 nk)∧X.cell? ⟨w.heap.size,1,none⟩=some (.string (bs nx))∧X.cell? ⟨w.heap.size,2,none⟩=some (.int .i64 na)∧X.cell? ⟨w.heap.size,3,none⟩=some (.int .i64 ne)∧X.cell? ⟨w.heap.size,4,none⟩=some (.slice nB nm nd))∧Below x.heap.size x X→NdV X (fun _=>True) (.agg #[.int .i64 nk,.string (bs nx),.int .i64 na,.int .i64 ne,.slice nB nm nd]) (Nd.mk nk nx na ne nl) from fun X h=>(V1.out.kept C4.out).kept h.2);have K1:=jj (fun (X:World) (h:NdV X (fun _=>True) (.agg #[.int .i64 nk,.string (bs nx),.int .i64 na,.int .i64 ne,.slice nB nm nd]) (Nd.mk nk nx na ne nl))=>pNodes _ X _ _ (by have:=Hs.out;omega) h);have K2:=jj (fun (X:World) (h:NdV X (fun _=>True) (.agg #[.int .i64 nk,.string (bs nx),.int .i64 na,.int .i64 ne,.slice nB nm nd]) (Nd.mk nk nx na ne nl))=>rNodes _ _ X _ _ (Nat.le_refl _) (by have:=Hs.out;omega) h);have K3:=jj (fun (X:World) (h:NdV X (fun _=>True) (.agg #[.int .i64 nk,.string (bs nx),.int .i64 na,.int .i64 ne,.slice nB nm nd]) (Nd.mk nk nx na ne nl))=>pAround off _ X _ _ (by have:=Hs.out;omega) h);have K4:=jj (fun (X:World) (h:NdV X (fun _=>True) (.agg #[.int .i64 nk,.string (bs nx),.int .i64 na,.int .i64 ne,.slice nB nm nd]) (Nd.mk nk nx na ne nl))=>rAround off _ _ X _ _ (Nat.le_refl _) (by have:=Hs.out;omega) h);have K5:=jj (fun (X:World) (A A':Option Addr) (m d m' d':Nat) (h:NdS X (fun _=>True) A m d (jca (Nd.mk nk nx na ne nl))) (h':NdS X (fun _=>True) A' m' d' (jca (Nd.mk nk nx na ne nl)))=>lsame h h');have K6:=jj (fun (X:World) (A A':Option Addr) (m d m' d':Nat) (h:NdS X (fun _=>True) A m d (jcz off (Nd.mk nk nx na ne nl))) (h':NdS X (fun _=>True) A' m' d' (jcz off (Nd.mk nk nx na ne nl)))=>lsame h h');rw[eqL_refl] at K5 K6
  go_region_held3 (fun w'=>(w'.cell? ⟨w.heap.size,0,none⟩=some (.int .i64 nk)∧w'.cell? ⟨w.heap.size,1,none⟩=some (.string (bs nx))∧w'.cell? ⟨w.heap.size,2,none⟩=some (.int .i64 na)∧w'.cell? ⟨w.heap.size,3,none⟩=some (.int .i64 ne)∧w'.cell? ⟨w.heap.size,4,none⟩=some (.slice nB nm nd))∧Below x.heap.size x w')
    (first | exact HK.out _ HS0.out | exact HKs.out _ _ (by assumption) hb4 | assumption)
    (first
      | (go_at_call 25;(with_reducible refine (K1.out _ (HN.out _ ?_)).mono ?_);assumption;rintro e w5 ⟨pA,pm,pd,rfl,hna,hb4⟩;(try have hnb:=hnb.kept hb4))
      | (go_at_call 26;(with_reducible refine (K2.out _ (HN.out _ ?_)).mono ?_);assumption;rintro e w5 ⟨rA,rm,rd,rfl,hqb,hb4⟩;have hnb:=(OwnQ.nds hqb).any;clear hqb;(try have hna:=hna.kept hb4))
      | (go_at_call 27;(with_reducible refine (K3.out _ (HN.out _ ?_)).mono ?_);assumption;rintro e w5 ⟨pA,pm,pd,rfl,hla,hb4⟩;(try have hlb:=hlb.kept hb4))
      | (go_at_call 28;(with_reducible refine (K4.out _ (HN.out _ ?_)).mono ?_);assumption;rintro e w5 ⟨rA,rm,rd,rfl,hqb,hb4⟩;have hlb:=(OwnQ.nds hqb).any;clear hqb;(try have hla:=hla.kept hb4))
      | (go_at_call 24;(with_reducible refine (K5.out _ _ _ _ _ _ _ hna hnb).mono ?_);rintro e w5 ⟨rfl,hb4⟩;clear hna hnb)
      | (go_at_call 24;(with_reducible refine (K6.out _ _ _ _ _ _ _ hla hlb).mono ?_);rintro e w5 ⟨rfl,hb4⟩;clear hla hlb))
  have B5:=jj (bgo B4.out (HKb.out _ (by assumption)));clear HK HS0 HKs HKb HN;go_wp2;go_ret;exact ⟨rfl,B5.out⟩
end
end Go.Proofs.YtonoklmobocikaaGreatDoor
