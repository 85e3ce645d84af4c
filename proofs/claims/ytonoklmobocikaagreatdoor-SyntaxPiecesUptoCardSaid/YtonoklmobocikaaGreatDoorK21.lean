/- Lemmas. -/
import Derived.Lib.SliceRun
import Derived.RegionDies
import Derived.Test.YtonoklmobocikaaGreatDoorK20
set_option linter.unusedVariables false
set_option linter.unusedSimpArgs false
set_option maxRecDepth 20000
set_option maxHeartbeats 6400000
namespace Go.Proofs.YtonoklmobocikaaGreatDoor
section
open Go.RowKit
mutual
theorem nodes_len:∀n:Nd,(jca n).length=sizeN n
  | .mk k x a e l=>by rw[jca,sizeN,List.length_cons,jkm l]
theorem jkm:∀l:List Nd,(jc7 l).length=ja8 l
  | []=>by rw[jc7,ja8];try rfl
  | n :: l=>by rw[jc7,ja8,List.length_append,nodes_len n,jkm l]
end
mutual
def jcz (off:Int):Nd→List Nd
  | .mk k x a e l=>if a≤off∧off<e then .mk k x a e l :: jcv off l else []
def jcv (off:Int):List Nd→List Nd
  | []=>[]
  | n :: l=>if (jcz off n).length=0 then jcv off l else jcz off n
end
mutual
theorem jmp (off:Int):∀n:Nd,(jcz off n).length≤sizeN n
  | .mk k x a e l=>by
    have:=aroundL_len off l
    rw[jcz,sizeN]
    split
    · rw[List.length_cons];omega
    · simp
theorem aroundL_len (off:Int):∀l:List Nd,(jcv off l).length≤ja8 l
  | []=>by rw[jcv,ja8];simp
  | n :: l=>by
    have:=jmp off n
    have:=aroundL_len off l
    rw[jcv,ja8]
    split<;>omega
end
theorem aroundL_none {off:Int}:∀{l:List Nd},(∀(j:Nat) z,l[j]?=some z→(jcz off z).length=0)→jcv off l=[]:=by
  intro l
  induction l with
  | nil=>intro _;rw[jcv]
  | cons n l ih=>intro h;rw[jcv,if_pos (h 0 n rfl)];exact ih fun j z hz=>h (j+1) z (by simpa using hz)
theorem OwnQ.base {W:World} {B:Nat} {q:Nat→Prop} {v:Value} {xs:List Nd} (h:OwnQ W B q v xs) {g:Nat} (hg:v.ownBlock=some g):B≤g∧g<W.heap.size:=by
  obtain ⟨cs,vs,h1,h2,h3,h4⟩:=h;exact h1.lt g hg
theorem OwnQ.weak {W:World} {B:Nat} {q q':Nat→Prop} {v:Value} {xs:List Nd} (h:OwnQ W B q v xs) (hq:∀g,q g→q' g):OwnQ W B q' v xs:=by
  obtain ⟨cs,vs,h1,h2,h3,h4⟩:=h;exact ⟨cs,vs,h1,h2,h3,fun i u x hu hx=>(h4 i u x hu hx).map (fun _ _ _=>rfl) fun g hg _=>⟨hq g hg.1,hg.2⟩⟩
theorem OwnQ.at_ {W:World} {B:Nat} {q:Nat→Prop} {A:Option Addr} {m d:Nat} {xs:List Nd} (h:OwnQ W B q (.slice A m d) xs) {i:Nat} (hi:i<m) :
    ∃g o y qA qm qd,A=some ⟨g,o,none⟩∧xs[i]?=some y∧NdS W q qA qm qd y.kids∧W.cell? ⟨g,o+i*5,none⟩=some (.int .i64 y.kind)∧W.cell? ⟨g,o+i*5+1,none⟩=some (.string (bs y.text)) ∧
      W.cell? ⟨g,o+i*5+2,none⟩=some (.int .i64 y.at_)∧W.cell? ⟨g,o+i*5+3,none⟩=some (.int .i64 y.en)∧W.cell? ⟨g,o+i*5+4,none⟩=some (.slice qA qm qd):=by
  obtain ⟨A',m',d',vs,he,hm,hvs,hn⟩:=h.s (fun _=>True) (fun _ _=>trivial) (fun _ _ _=>trivial);cases he;obtain ⟨cs,vs2,h1,h2,h3,h4⟩:=h;obtain ⟨g,o,c0,c1,c2,c3,c4,hA,hv,x0,x1,x2,x3,x4⟩:=hvs.at_ hi;obtain ⟨y,hy⟩:∃y,xs[i]?=some y:=⟨_,List.getElem?_eq_getElem (by omega)⟩;obtain ⟨rfl,rfl,rfl,rfl,qA,qm,qd,rfl,hs⟩:=(hn i _ y hv hy).cells;(have hi2:i<vs2.length:=by have:=(List.getElem?_eq_some_iff.1 hy).1;omega);obtain ⟨d0,d1,d2,d3,d4,e5,e0,e1,e2,e3,e4⟩:=h3 i _ (List.getElem?_eq_getElem hi2);have h5:=h4 i _ y (List.getElem?_eq_getElem hi2) hy;rw[e5] at h5;obtain ⟨rfl,rfl,rfl,rfl,rA,rm,rd,rfl,rs⟩:=h5.cells
  have hc:W.cell? ⟨g,o+i*5+4,none⟩=some (.slice rA rm rd):=by
    rcases h1.2 with ⟨e,h0⟩ | ⟨g',cap,cur,e,hb,hg,r⟩
    · cases e;omega
    · cases e;cases hA;have hc4:=h1.cellAt (i*5+4) (by omega);rw[Nat.zero_add];exact hc4.trans e4
  rw[hc] at x4;cases x4;exact ⟨g,o,y,_,_,_,hA,hy,rs.map (fun _ _ _=>rfl) fun g hg _=>hg.1,x0,x1,x2,x3,hc⟩
end
section
open Go.RowKit
theorem row_set5 {w:World} {B e g n cap sz:Nat} {xs:List Value} (h:w.ownsRow B e sz (.slice (some ⟨g,0,none⟩) n cap) n xs) (j:Nat) (u:Value):(w.setCell ⟨g,j,none⟩ u).ownsRow B e sz (.slice (some ⟨g,0,none⟩) n cap) n (xs.set j u):=by
  obtain ⟨h1,h2⟩:=h;refine ⟨by rw[List.length_set];exact h1,?_⟩;rcases h2 with ⟨h0,_⟩ | ⟨g',cap',cur,hv,hB,hh,hn,hm,hs,ht⟩
  · cases h0
  · simp only[Value.slice.injEq,Option.some.injEq,Addr.mk.injEq,and_true,true_and] at hv;obtain ⟨rfl,rfl⟩:=hv;refine Or.inr ⟨g,cap,cur.setIfInBounds j u,rfl,hB,Go.Joins.block_setCell hh u,hn,hm,by simpa using hs,?_⟩;rw[Array.toList_setIfInBounds,List.take_set,ht]
theorem OwnQ.zero {W:World} {B:Nat} {q:Nat→Prop} {A:Option Addr} {m d:Nat} {xs:List Nd} (h:OwnQ W B q (.slice A m d) xs) (hm:0<m):∃g,A=some ⟨g,0,none⟩:=by
  obtain ⟨cs,vs,h1,h2,h3,h4⟩:=h;rcases h1.2 with ⟨e,h0⟩ | ⟨g,cap,cur,e,r⟩
  · cases e;omega
  · cases e;exact ⟨g,rfl⟩
theorem OwnQ.at2 {W:World} {B:Nat} {q:Nat→Prop} {g m d:Nat} {xs:List Nd} (h:OwnQ W B q (.slice (some ⟨g,0,none⟩) m d) xs) {i:Nat} (hi:i<m) :
    ∃y qA qm qd,xs[i]?=some y∧NdS W (fun b=>q b∧b≠g) qA qm qd y.kids∧W.cell? ⟨g,i*5,none⟩=some (.int .i64 y.kind)∧W.cell? ⟨g,i*5+1,none⟩=some (.string (bs y.text)) ∧
      W.cell? ⟨g,i*5+2,none⟩=some (.int .i64 y.at_)∧W.cell? ⟨g,i*5+3,none⟩=some (.int .i64 y.en)∧W.cell? ⟨g,i*5+4,none⟩=some (.slice qA qm qd)∧∀j,W.frozen? ⟨g,j,none⟩=false:=by
  obtain ⟨cs,vs2,h1,h2,h3,h4⟩:=h;rcases h1.2 with ⟨e,h0⟩ | ⟨g',cap,cur,e,hb,hg,r⟩
  · cases e
  · cases e;obtain ⟨y,hy⟩:∃y,xs[i]?=some y:=⟨_,List.getElem?_eq_getElem (by omega)⟩;(have hi2:i<vs2.length:=by omega);obtain ⟨d0,d1,d2,d3,d4,e5,e0,e1,e2,e3,e4⟩:=h3 i _ (List.getElem?_eq_getElem hi2);have h5:=h4 i _ y (List.getElem?_eq_getElem hi2) hy;rw[e5] at h5;obtain ⟨rfl,rfl,rfl,rfl,rA,rm,rd,rfl,rs⟩:=h5.cells;refine ⟨y,rA,rm,rd,hy,rs.map (fun _ _ _=>rfl) fun b hb _=>⟨hb.1,fun e=>hb.2 (by rw[e];rfl)⟩,(h1.cellAt (i*5) (by omega)).trans e0,(h1.cellAt (i*5+1) (by omega)).trans e1,(h1.cellAt (i*5+2) (by omega)).trans e2,(h1.cellAt (i*5+3) (by omega)).trans e3,(h1.cellAt (i*5+4) (by omega)).trans e4,fun j=>?_⟩;simp[World.frozen?,hg]
theorem OwnQ.kids {W:World} {B:Nat} {q:Nat→Prop} {g m d:Nat} {xs:List Nd} (h:OwnQ W B q (.slice (some ⟨g,0,none⟩) m d) xs) {i:Nat} {y:Nd} (hy:xs[i]?=some y) {qA:Option Addr} {qm qd:Nat} (hs:NdS W (fun b=>q b∧b≠g) qA qm qd y.kids) :
    OwnQ (W.setCell ⟨g,i*5+4,none⟩ (.slice qA qm qd)) B q (.slice (some ⟨g,0,none⟩) m d) xs:=by
  have hm:m=xs.length:=by
    obtain ⟨A',m',d',vs,he,hm,-⟩:=h.s (fun _=>True) (fun _ _=>trivial) (fun _ _ _=>trivial);cases he;exact hm
  subst hm;obtain ⟨cs,vs,h1,h2,h3,h4⟩:=h;have hi:i<xs.length:=(List.getElem?_eq_some_iff.1 hy).1;have hcl:cs.length=xs.length*5:=h1.1
  have hmap:∀(u:Value) (z:Nd),NdV W (fun b=>q b∧b≠g) u z→NdV (W.setCell ⟨g,i*5+4,none⟩ (.slice qA qm qd)) (fun b=>q b∧(Value.slice (some ⟨g,0,none⟩) xs.length d).ownBlock≠some b) u z:=fun u z hz =>
    hz.map (fun p hp _=>World.cell?_setCell_other _ _ _ _ (fun e=>hp.2 (congrArg Addr.block e).symm)) fun b hb _=>⟨hb.1,fun e=>hb.2 (by simp only[Value.ownBlock,Option.some.injEq] at e;exact e.symm)⟩
  refine ⟨cs.set (i*5+4) (.slice qA qm qd),vs.set i (.agg #[.int .i64 y.kind,.string (bs y.text),.int .i64 y.at_,.int .i64 y.en,.slice qA qm qd]),row_set5 h1 _ _,by rw[List.length_set];exact h2,fun j u hu=>?_,fun j u z hu hz=>?_⟩
  · by_cases hj:j=i
    · subst hj;rw[List.getElem?_set_self (by omega)] at hu;cases hu;obtain ⟨d0,d1,d2,d3,d4,e5,e0,e1,e2,e3,e4⟩:=h3 j _ (List.getElem?_eq_getElem (by omega));have h5:=h4 j _ y (List.getElem?_eq_getElem (by omega)) hy;rw[e5] at h5;obtain ⟨rfl,rfl,rfl,rfl,-⟩:=h5.cells;refine ⟨_,_,_,_,_,rfl,?_,?_,?_,?_,?_⟩
      · rw[List.getElem?_set_ne (by omega)];exact e0
      · rw[List.getElem?_set_ne (by omega)];exact e1
      · rw[List.getElem?_set_ne (by omega)];exact e2
      · rw[List.getElem?_set_ne (by omega)];exact e3
      · rw[List.getElem?_set_self (by omega)]
    · rw[List.getElem?_set_ne (by omega)] at hu;obtain ⟨d0,d1,d2,d3,d4,e5,e0,e1,e2,e3,e4⟩:=h3 j u hu;refine ⟨d0,d1,d2,d3,d4,e5,?_,?_,?_,?_,?_⟩
      · rw[List.getElem?_set_ne (by omega)];exact e0
      · rw[List.getElem?_set_ne (by omega)];exact e1
      · rw[List.getElem?_set_ne (by omega)];exact e2
      · rw[List.getElem?_set_ne (by omega)];exact e3
      · rw[List.getElem?_set_ne (by omega)];exact e4
  · by_cases hj:j=i
    · subst hj;rw[List.getElem?_set_self (by omega)] at hu;rw[hy] at hz;cases hu;cases hz;exact hmap _ _ (jb7 hs)
    · rw[List.getElem?_set_ne (by omega)] at hu;exact hmap _ _ ((h4 j u z hu hz).map (fun _ _ _=>rfl) fun b hb _=>⟨hb.1,fun e=>hb.2 (by rw[e];rfl)⟩)
theorem OwnQ.lit0 {w:World} {B:Nat} {q:Nat→Prop} (hB:B≤w.heap.size) (H:Nat) (hH:H=w.heap.size):OwnQ (w.alloc (.cells #[] 25)) B q (.slice (some ⟨H,0,none⟩) 0 0) []:=by
  subst hH;exact ⟨[],[],World.ownsRow_lit w #[] 0 hB (Nat.zero_le _) rfl,rfl,fun i u h=>by simp at h,fun i u x h=>by simp at h⟩
theorem pclone {W:World} {ok:Nat→Prop} {A:Option Addr} {m d:Nat} {xs:List Nd} (h:NdS W ok A m d xs) (hm:m≤1000000000) :
    Calls Tryz.prog 148 #[.slice A m d] W fun e w'=>∃A' m' d',e=.returned (.slice A' m' d')∧OwnQ w' W.heap.size (fun g=>ok g∧g<W.heap.size) (.slice A' m' d') xs∧Below W.heap.size W w':=by
  obtain ⟨i0,hi0,hz0,hz1,hz2⟩:=info_parts jfd;have hl:=h.len
  cases A with
  | none =>
    have hx:xs=[]:=by
      cases m with
      | zero=>exact List.eq_nil_of_length_eq_zero hl.1
      | succ m=>obtain ⟨g,o,y,qA,qm,qd,e,-⟩:=h.at_ (Nat.succ_pos m);cases e
    subst hx;have hq:∀w:World,(binOp .eql 23 (.slice none m d) (.slice none 0 0)).run Tryz.prog w=.ok (.bool true) w:=fun w=>Lib.run_eql_slice_nil w 23 25 none m d 0 0 Tryz.underlying23;clear h hl;go_enter Tryz.func148,Tryz.ntmps148;go_wp2;go_ret;exact ⟨none,0,0,rfl,OwnQ.nil _ _ _,Below.refl _ _⟩
  | some ad =>
    have hq:∀w:World,(binOp .eql 23 (.slice (some ad) m d) (.slice none 0 0)).run Tryz.prog w=.ok (.bool false) w:=fun w=>Lib.run_eql_slice_nil w 23 25 (some ad) m d 0 0 Tryz.underlying23;have HA:=jj (h.map (W':=W.alloc (.cells #[] 25)) (ok':=fun g=>(ok g∧g<W.heap.size)∧(Value.slice (some ⟨W.heap.size,0,none⟩) 0 0).ownBlock≠some g) (fun p _ hp=>World.cell?_alloc_lt W _ p hp) (fun g hg hlt=>⟨⟨hg,hlt⟩,fun e=>by simp only[Value.ownBlock,Option.some.injEq] at e;omega⟩));have HO:=jj (OwnQ.lit0 (w:=W) (B:=W.heap.size) (q:=fun g=>ok g∧g<W.heap.size) (Nat.le_refl _) W.heap.size rfl);have hb0:=jak (Below.refl W.heap.size W) (.cells #[] 25);have HB:=jj hb0;have HSz:=jj hb0.size;clear h hl hb0;go_enter Tryz.func148,Tryz.ntmps148;go_wp2_with (at_builtin;refine wp_join_nd rfl (.tmp 5) (.tmp 6) 23 rfl i0 _ 64 Tryz.underlying23 hi0 hz0 hz1 hz2 rfl W.heap.size (fun g=>ok g∧g<W.heap.size) _ [] rfl _ HO.out HSz.out (some ad) m d xs rfl HA.out (by simp;omega) (by unfold maxLen;simp;omega) ?_);intro v2 w2 ho2 b2 far2;obtain ⟨A2,m2,d2,vs2,rfl,-⟩:=ho2.s (fun _=>True) (fun _ _=>trivial) (fun _ _ _=>trivial);have O2:=jj ho2;have B2:=jj (HB.out.trans b2);clear ho2 b2 far2;go_wp2;go_ret;exact ⟨A2,m2,d2,rfl,O2.out,B2.out⟩
theorem jlf (n:Nd):0<sizeN n:=by cases n;rw[sizeN];omega
theorem jd4 (n:Nd):sizeN n=ja8 n.kids+1:=by cases n;rw[sizeN];try rfl
theorem sizeL_len:∀l:List Nd,l.length≤ja8 l
  | []=>Nat.zero_le _
  | n :: l=>by have:=sizeL_len l;have:=jlf n;rw[ja8,List.length_cons];omega
theorem pcopied:∀(f:Nat) (W:World) (ok:Nat→Prop) (A:Option Addr) (m d:Nat) (xs:List Nd),NdS W ok A m d xs→ja8 xs<f→ja8 xs≤1000000000 →
    Calls Tryz.prog 93 #[.slice A m d] W fun e w'=>∃A' m' d',e=.returned (.slice A' m' d')∧OwnQ w' W.heap.size (fun g=>(ok g∧g<W.heap.size)∨W.heap.size≤g) (.slice A' m' d') xs∧Below W.heap.size W w':=by
  intro f
  induction f with
  | zero=>intro W ok A m d xs _ h;omega
  | succ f ih =>
    intro W ok A m d xs h hf h9;have hsl:=sizeL_len xs;have HC:=jj (pclone h (by have:=h.len.1;omega));have IH:=jj ih;clear h ih;go_enter Tryz.func93,Tryz.ntmps93;go_wp2_with fail;(with_reducible refine HC.out.mono ?_);rintro e w1 ⟨A1,m1,d1,rfl,ho1,hb1⟩
    have hm1:m1=xs.length:=by
      obtain ⟨A',m',d',vs,he,hm,-⟩:=ho1.s (fun _=>True) (fun _ _=>trivial) (fun _ _ _=>trivial);cases he;exact hm
    have hdd:d1≤9223372036854775807:=by
      obtain ⟨A',m',d',vs,he,hm,hvs,-⟩:=ho1.s (fun _=>True) (fun _ _=>trivial) (fun _ _ _=>trivial);cases he;exact hvs.2.1
    have hmd:m1≤d1:=by
      obtain ⟨A',m',d',vs,he,hm,hvs,-⟩:=ho1.s (fun _=>True) (fun _ _=>trivial) (fun _ _ _=>trivial);cases he;exact hvs.1
    have O1:=jj (ho1.weak (q':=fun g=>(ok g∧g<W.heap.size)∨W.heap.size≤g) fun g hg=>Or.inl hg);have B1:=jj hb1;have HM:=jj hm1;(have hm9:m1≤1000000000:=by omega);clear ho1 hb1 HC hm1;go_wp2_with fail
    go_loopw [8] (fun y wr=>∃i:Nat,i≤m1∧y=.int .i64 (i:Int)∧OwnQ wr W.heap.size (fun g=>(ok g∧g<W.heap.size)∨W.heap.size≤g) (.slice A1 m1 d1) xs∧Below W.heap.size W wr) (fun y _=>m1 - (intOf y).toNat)
    case atStart=>exact ⟨0,Nat.zero_le _,rfl,O1.out,B1.out⟩
    case round =>
      obtain ⟨i,hi,rfl,ho,hb⟩:=hrel;obtain ⟨w3,hw3⟩:∃w3,w3=wr:=⟨wr,rfl⟩;subst hw3;have O3:=jj ho;have B3:=jj hb;clear O1 B1;by_cases hlt:i<m1
      · (have hki:(i:Int)<(m1:Int):=by omega);obtain ⟨g,rfl⟩:=ho.zero (by omega);obtain ⟨y,yA,ym,yd,hy,ry,x0,x1,x2,x3,x4,hfz⟩:=ho.at2 hlt;obtain ⟨s1,s2⟩:=jdj hy;have hk:=jd4 y;have HC:=jj (IH.out _ _ _ _ _ _ ry (by omega) (by omega));have Hg:=jj ((ho.base (g:=g) rfl));have HY:=jj hy;clear hy ry s1 s2 hk ho hb hfz x0 x1 x2 x3;go_wp2_with fail;(with_reducible refine HC.out.mono ?_);rintro e w4 ⟨kA,km,kd,rfl,hk4,hb4⟩;have O4:=jj (O3.out.below hb4)
        have HS:=jj (show NdS w4 (fun b=>((ok b∧b<W.heap.size)∨W.heap.size≤b)∧b≠g) kA km kd (y.kids) by
          obtain ⟨A',m',d',vs,he,hm,hvs,hn⟩:=hk4.s (fun b=>((ok b∧b<W.heap.size)∨W.heap.size≤b)∧b≠g) (fun b hb=>by
            rcases hb with h | h
            · exact h.1
            · exact ⟨Or.inr (by have:=B3.out.size;omega),by have:=Hg.out.2;omega⟩) (fun b hb _=>⟨Or.inr (by have:=B3.out.size;omega),by have:=Hg.out.2;omega⟩)
          cases he
          exact ⟨vs,hvs,hm.symm,hn⟩)
        have B4:=jj (B3.out.trans (hb4.mono B3.out.size));obtain ⟨y',yA',ym',yd',hy',-,z0,z1,z2,z3,z4,hfz⟩:=O4.out.at2 hlt;have z5:=hfz (i*5+4);have O5:=jj (O4.out.kids HY.out HS.out);have B5:=jj (B4.out.setCell (p:=⟨g,i*5+4,none⟩) Hg.out.1 (.slice kA km kd));clear hk4 hb4 HC x4 z0 z1 z2 z3 hfz hy';go_wp2;go_roundw
        case rel=>exact ⟨i+1,by omega,by go_num,O5.out,B5.out⟩
        case measure=>simp[intOf];omega
      · (have hki:¬(i:Int)<(m1:Int):=by omega);clear ho hb;go_wp2;go_ret;exact ⟨A1,m1,d1,rfl,O3.out,B3.out⟩
theorem papart {W:World} {ok:Nat→Prop} {A:Option Addr} {m d:Nat} {xs:List Nd} (h:NdS W ok A m d xs) (h9:∀y∈xs,sizeN y≤1000000000) :
    Calls Tryz.prog 49 #[.slice A m d] W fun e w'=>∃A' m' d',e=.returned (.slice A' m' d')∧NdS w' (fun _=>True) A' m' d' xs∧Below W.heap.size W w':=by
  have hl:=h.len;have hmd:=hl.2.1;have hdd:=hl.2.2;have HN:=jj h;have HLn:=jj hl.1;have H9:=jj h9;clear h hl h9;go_enter Tryz.func49,Tryz.ntmps49;go_wp2_with fail
  go_loopw [3,8] (fun u y wr=>∃i c:Nat,i≤m∧u=.int .i64 (c:Int)∧y=.int .i64 (i:Int)∧c=ja8 (xs.take i)∧c≤65536∧Below W.heap.size W wr) (fun _ y _=>m - (intOf y).toNat)
  case atStart=>exact ⟨0,0,Nat.zero_le _,rfl,rfl,by rw[List.take_zero,ja8],by omega,Below.refl _ _⟩
  case round =>
    obtain ⟨i,c,hi,rfl,rfl,hc,hc6,hb⟩:=hrel;obtain ⟨w3,hw3⟩:∃w3,w3=wr:=⟨wr,rfl⟩;subst hw3;have HCc:=jj hc;have B3:=jj hb;clear hc;by_cases hlt:i<m
    · (have hki:(i:Int)<(m:Int):=by omega);obtain ⟨g,o,y,yA,ym,yd,rfl,hy,ry,x0,x1,x2,x3,x4⟩:=(HN.out.kept hb).at_ hlt;obtain ⟨s1,s2⟩:=jdj hy;have hy9:sizeN y≤1000000000:=H9.out y (List.mem_of_getElem? hy);have bk:=jak (Below.refl _ w3) (.cells #[.int .i64 y.kind,.string (bs y.text),.int .i64 y.at_,.int .i64 y.en,.slice yA ym yd] 25);have HC:=jj (pSize (sizeN y) y (w3.alloc (.cells #[.int .i64 y.kind,.string (bs y.text),.int .i64 y.at_,.int .i64 y.en,.slice yA ym yd] 25)) _ (Nat.le_refl _) hy9 ((jb7 ry).any.kept bk));obtain ⟨-,t0,t1,t2,t3,t4⟩:=ja6 w3 (.int .i64 y.kind) (.string (bs y.text)) (.int .i64 y.at_) (.int .i64 y.en) (.slice yA ym yd) 25;obtain ⟨Y,hY⟩:=jx (sizeN y);rw[hY] at HC s1 hy9;have Hs:=jj (show c+Y=ja8 (xs.take (i+1)) by rw[s1,HCc.out]);have Hb:=jj (bgo B3.out bk);clear hy ry s1 s2 bk hb hY;by_cases h6:c+Y≤65536
      · have d1:decide ((c:Int)+(Y:Int) > 65536)=false:=decide_eq_false (by omega);have d2:decide ((65536:Int)<(c:Int)+(Y:Int))=false:=decide_eq_false (by omega);(have d3:¬(65536:Int)<(c:Int)+(Y:Int):=by omega);go_wp2_with fail;(with_reducible refine HC.out.mono ?_);rintro e2 w4 ⟨rfl,hb4⟩;have B4:=jj (bgo Hb.out hb4);clear hb4 x0 x1 x2 x3 x4 t0 t1 t2 t3 t4;go_wp2;go_roundw
        case rel=>exact ⟨i+1,c+Y,by omega,by go_num,by go_num,Hs.out,h6,B4.out⟩
        case measure=>simp[intOf];omega
      · have d1:decide ((c:Int)+(Y:Int) > 65536)=true:=decide_eq_true (by omega);have d2:decide ((65536:Int)<(c:Int)+(Y:Int))=true:=decide_eq_true (by omega);(have d3:(65536:Int)<(c:Int)+(Y:Int):=by omega);go_wp2_with fail;(with_reducible refine HC.out.mono ?_);rintro e2 w4 ⟨rfl,hb4⟩;have B4:=jj (bgo Hb.out hb4);clear hb4 x0 x1 x2 x3 x4 t0 t1 t2 t3 t4;go_wp2;go_ret;exact ⟨_,_,_,rfl,(HN.out.kept B4.out).any,B4.out⟩
    · (have hki:¬(i:Int)<(m:Int):=by omega);(have hall:ja8 xs≤65536:=by have:=HCc.out;rw[List.take_of_length_le (by rw[HLn.out];omega)] at this;omega);have HC:=jj (pcopied (ja8 xs+1) _ _ _ _ _ _ (HN.out.kept hb) (Nat.lt_succ_self _) (by omega));clear hb;go_wp2_with fail;(with_reducible refine HC.out.mono ?_);rintro e w4 ⟨A4,m4,d4,rfl,ho4,hb4⟩
      have HS:=jj (show NdS w4 (fun _=>True) A4 m4 d4 xs by
        obtain ⟨A',m',d',vs,he,hm,hvs,hn⟩:=ho4.s (fun _=>True) (fun _ _=>trivial) (fun _ _ _=>trivial);cases he
        exact ⟨vs,hvs,hm.symm,hn⟩)
      have B4:=jj (bgo B3.out hb4);clear ho4 hb4;go_wp2;go_ret;exact ⟨A4,m4,d4,rfl,HS.out,B4.out⟩
end
section
open Go.RowKit
section
variable {W:World} {p:Nat} {A:Option Addr} {n c:Nat} {len:Int} {T:List Tk} {i:Nat}
theorem gotM_fin {okn:Nat→Prop} {w9:World} {H:Nat} {y:Nd} {x:List UInt8} {a:Int} {j:Nat} (ho:OwnQ w9 W.heap.size (fun g=>okn g∧g<W.heap.size) (.slice (some ⟨H,0,none⟩) 1 1) [y]) (hb:Bt p W w9) (hq:QS w9 p A n c len T j) (hp:p<W.heap.size) (hij:i<j) (hH:W.heap.size+2≤H) :
    GotM p A n c len T W okn i (.ok (.mk 19 x a (laP T j) [y],j)) (.returned (.agg #[.int .i64 19,.string (bs x),.int .i64 a,.int .i64 (laP T j),.slice (some ⟨H,0,none⟩) 1 1])) (jex w9 (W.heap.size+1) (.int .i64 19) (.string (bs x)) (.int .i64 a) (.int .i64 (laP T j)) (.slice (some ⟨H,0,none⟩) 1 1)):=by
  refine ⟨hb.then_below (jaj (Below.refl W.heap.size w9) (Nat.le_succ _)) (Nat.le_refl _),⟨_,_,_,rfl,?_⟩,hq.at_ (jaj (Below.refl W.heap.size w9) (Nat.le_succ _)) hp,hij⟩;have hn:=ho.node (fun g=>(okn g∧g<W.heap.size)∨g=H) (fun g h=>Or.inl h) (fun g hg e=>Or.inr (by simpa [Value.ownBlock] using e.symm)) 19 a (laP T j) x;exact hn.map (fun q hq _=>jd1 (by rcases hq with h | h<;>omega)) fun g hg _=>hg.elim (fun h=>Or.inl h.1) fun h=>Or.inr (by show W.heap.size≤g;omega)
theorem qmember (a:Int) (y:Nd) (B:Option Addr) (m d:Nat) {okn:Nat→Prop} (hy:NdV W okn (.agg #[.int .i64 y.kind,.string (bs y.text),.int .i64 y.at_,.int .i64 y.en,.slice B m d]) y) (hokp:∀g,okn g→g≠p) (hrs:QS W p A n c len T i) (hc:jbg T i=[46]) :
    Calls Tryz.prog 222 #[.pointer (some ⟨p,0,none⟩),.int .i64 a,.agg #[.int .i64 y.kind,.string (bs y.text),.int .i64 y.at_,.int .i64 y.en,.slice B m d]] W (GotM p A n c len T W okn i (jht (jeb T len (i+1)) fun x j=>.ok (.mk 19 x a (laP T j) [y],j))):=by
  obtain ⟨R,hR⟩:=jx ((jht (jeb T len (i+1)) fun x j=>Except.ok (Nd.mk 19 x a (laP T j) [y],j)));rw[hR];have HR:=jj hR;clear hR;have F0:=jae W (.int .i64 y.kind) (.string (bs y.text)) (.int .i64 y.at_) (.int .i64 y.en) (.slice B m d) 25;have F0:=F0.keep (jak (Below.refl _ _) (.cells #[.int .i64 0,.string ⟨#[]⟩,.int .i64 0,.int .i64 0,.slice none 0 0] 25));have h0:=QW.start (hrs.keep (jak (Below.refl _ W) (.cells #[.int .i64 y.kind,.string (bs y.text),.int .i64 y.at_,.int .i64 y.en,.slice B m d] 25)));obtain ⟨w0,hw0⟩:=jx ((W.alloc (.cells #[.int .i64 y.kind,.string (bs y.text),.int .i64 y.at_,.int .i64 y.en,.slice B m d] 25)).alloc (.cells #[.int .i64 0,.string ⟨#[]⟩,.int .i64 0,.int .i64 0,.slice none 0 0] 25));rw[hw0] at F0 h0;have G0:=jj h0;have P0:=jj F0;(have hBt0:Bt p W w0:=by rw[←hw0];exact Bt.of (jak (jak (Below.refl _ W) _) _) p);have B0:=jj hBt0;have Y0:=jj ((hy.map (ok':=fun g=>okn g∧g<W.heap.size) (fun _ _ _=>rfl) (fun g h hl=>⟨h,hl⟩)).kept (show Below W.heap.size W w0 by rw[←hw0];exact jak (jak (Below.refl _ W) _) _));have HOk:=jj (fun g (h:okn g∧g<W.heap.size)=>hokp g h.1);have HPL:=jj hrs.st.lt;have HWz:=jj (show W.heap.size+2≤w0.heap.size by rw[←hw0];simp);have HNE:=jj (show W.heap.size≠p by have:=hrs.st.lt;omega);have HW:=jj hw0;have HWs:=jj (show (W.alloc (.cells #[.int .i64 y.kind,.string (bs y.text),.int .i64 y.at_,.int .i64 y.en,.slice B m d] 25)).heap.size=W.heap.size+1 by simp);clear h0 F0 hw0 hrs hBt0 hy hokp;go_enter Tryz.func222,Tryz.ntmps222;go_wp2_with fail;rw[HW.out];(with_reducible refine (jgz G0.out.rs [46] (by decide) ⟨#[46]⟩ rfl).mono ?_);rintro e w1 ⟨b1,hr1⟩;rw[jfq hc] at hr1;obtain ⟨rfl,h1,-⟩:=hr1;dsimp only at h1;have G1:=jj (G0.out.next h1 b1);have P1:=jj (P0.out.bt b1 HNE.out);have B1:=jj (B0.out.trans b1);have Y1:=jj (Y0.out.bt b1 HOk.out);have HWy:=jj (Nat.le_trans HWz.out b1.size);clear b1 h1 G0 P0 HW hc B0 Y0 HWz;have HRB:=jj (show FiveF w1 (W.heap.size+1) (.int .i64 0) (.string ⟨#[]⟩) (.int .i64 0) (.int .i64 0) (.slice none 0 0) by have:=G1.out.box;rw[HWs.out] at this;exact this);have HNE2:=jj (show W.heap.size+1≠p by have:=G1.out.lt;rw[HWs.out] at this;omega);have HNm:=jj (fun X (hX:Below w1.heap.size w1 X)=>qname (G1.out.rs.keep hX));have HNo:=jj (fun X (hX:QS X p A n c len T (i+1+1)) (z:ByteArray) (C:Option Addr) (q r:Nat)=>jhi hX (Nat.succ_pos _) 19 a z C q r)
  cases hq:jeb T len (i+1) with
  | error aa =>
    rw[hq] at HNm;(obtain rfl:R=.error aa:=by rw[←HR.out,hq];rfl);have HNr:=jj (show ∀X:World,Below w1.heap.size w1 X→Calls Tryz.prog 112 #[.pointer (some ⟨p,0,none⟩)] X (fun e w'=>Bt p W w'∧e=jbk aa) from fun X h=>(HNm.out X h).mono fun e w' hg=>⟨(B1.out.trans (Bt.of h p)).trans hg.1,hg.2⟩);have HD1:=jj (jba w1);have HD2:=jj (bgo (jak (Below.refl _ w1) (.cells #[.int .i64 y.kind,.string (bs y.text),.int .i64 y.at_,.int .i64 y.en,.slice B m d] 25)) (jba (w1.alloc (.cells #[.int .i64 y.kind,.string (bs y.text),.int .i64 y.at_,.int .i64 y.en,.slice B m d] 25))));obtain ⟨⟨-,y0,y1,y2,y3,y4⟩,-⟩:=P1.out;clear HNm HNo P1 HRB Y1 HWy G1 B1;go_wp2_with fail
    go_region_dies
    (all_goals (first | with_reducible refine (HNr.out _ HD1.out).mono ?_ | with_reducible refine (HNr.out _ HD2.out).mono ?_));all_goals (rintro e w20 ⟨hb20,rfl⟩;exact ⟨rfl,hb20,rfl⟩)
  | ok z =>
    obtain ⟨x,j⟩:=z;(obtain rfl:j=i+1+1:=by unfold jeb at hq;split at hq<;>cases hq;rfl);rw[hq] at HNm;(obtain rfl:R=.ok (.mk 19 x a (laP T (i+1+1)) [y],i+1+1):=by rw[←HR.out,hq];rfl);go_wp2_with fail;obtain ⟨⟨-,y0,y1,y2,y3,y4⟩,-⟩:=P1.out;have HD1:=jj (jba w1);have HD2:=jj (bgo (jak (Below.refl _ w1) (.cells #[.int .i64 y.kind,.string (bs y.text),.int .i64 y.at_,.int .i64 y.en,.slice B m d] 25)) (jba (w1.alloc (.cells #[.int .i64 y.kind,.string (bs y.text),.int .i64 y.at_,.int .i64 y.en,.slice B m d] 25))))
    go_region_with (first
      | (go_at_call 112;(first | with_reducible refine (HNm.out _ HD1.out).mono ?_ | with_reducible refine (HNm.out _ HD2.out).mono ?_);intro e w20 h20;obtain ⟨b20,rfl,h20,-⟩:=h20;dsimp only at h20;obtain ⟨⟨-,z0,z1,z2,z3,z4⟩,-⟩:=(show FiveF w20 W.heap.size (.int .i64 y.kind) (.string (bs y.text)) (.int .i64 y.at_) (.int .i64 y.en) (.slice B m d) from by first | exact (P1.out.keep HD1.out).bt b20 HNE.out | exact (P1.out.keep HD2.out).bt b20 HNE.out))
      | (go_at_call 113;(first | with_reducible refine (HNo.out _ h20 _ _ _ _).mono ?_ | with_reducible refine (HNo.out _ (h20.keep (jak (Below.refl _ w20) (.cells #[.int .i64 y.kind,.string (bs y.text),.int .i64 y.at_,.int .i64 y.en,.slice B m d] 25))) _ _ _ _).mono ?_);rintro e w21 ⟨rfl,b21⟩;obtain ⟨⟨-,x0,x1,x2,x3,x4⟩,g0,g1,g2,g3,g4⟩:=(show FiveF w21 (W.heap.size+1) (.int .i64 0) (.string ⟨#[]⟩) (.int .i64 0) (.int .i64 0) (.slice none 0 0) from by first | exact ((HRB.out.keep HD1.out).bt b20 HNE2.out).keep (bgo (jak (Below.refl _ w20) (.cells #[.int .i64 y.kind,.string (bs y.text),.int .i64 y.at_,.int .i64 y.en,.slice B m d] 25)) b21) | exact ((HRB.out.keep HD2.out).bt b20 HNE2.out).keep b21)))
    all_goals first
      | (have HOQ:=jj (((jmw (w:=w20) (B:=W.heap.size) (q:=fun g=>okn g∧g<W.heap.size) (by have:=HWy.out;have:=HD1.out.size;have:=b20.size;omega) ((Y1.out.kept HD1.out).bt b20 HOk.out) w20.heap.size rfl).below b21))
         have BF:=jj (((B1.out.trans (Bt.of HD1.out p)).trans b20).trans (Bt.of (bgo (jak (Below.refl _ w20) (.cells #[.int .i64 y.kind,.string (bs y.text),.int .i64 y.at_,.int .i64 y.en,.slice B m d] 25)) b21) p));have QF:=jj ((h20.keep (jak (Below.refl _ w20) (.cells #[.int .i64 y.kind,.string (bs y.text),.int .i64 y.at_,.int .i64 y.en,.slice B m d] 25))).keep b21);have FF:=jj (((HRB.out.keep HD1.out).bt b20 HNE2.out).keep (bgo (jak (Below.refl _ w20) (.cells #[.int .i64 y.kind,.string (bs y.text),.int .i64 y.at_,.int .i64 y.en,.slice B m d] 25)) b21));go_wp2
         exact bodyPost_ret (jag rfl _ _ (W.heap.size+1) _ _ _ _ _ rfl (ja3 FF.out _ _ _ _ _)) rfl (by exact gotM_fin HOQ.out BF.out QF.out HPL.out (by omega) (by have:=HWy.out;have:=HD1.out.size;have:=b20.size;omega)))
      | (have HOQ:=jj ((((jmw (w:=w1) (B:=W.heap.size) (q:=fun g=>okn g∧g<W.heap.size) (by have:=HWy.out;omega) Y1.out w1.heap.size rfl).below (jba _)).btq b20 HPL.out HOk.out).below b21)
         have BF:=jj (((B1.out.trans (Bt.of HD2.out p)).trans b20).trans (Bt.of b21 p));have QF:=jj (h20.keep b21);have FF:=jj (((HRB.out.keep HD2.out).bt b20 HNE2.out).keep b21);go_wp2
         exact bodyPost_ret (jag rfl _ _ (W.heap.size+1) _ _ _ _ _ rfl (ja3 FF.out _ _ _ _ _)) rfl (by exact gotM_fin HOQ.out BF.out QF.out HPL.out (by omega) HWy.out))
end
end
section
open Go.RowKit
section
variable {W:World} {p:Nat} {A:Option Addr} {n c:Nat} {len:Int} {T:List Tk} {i:Nat}
theorem serQ_len {E:Nat→Option (Oc Nd)} (hlt:∀i x j,E i=some (.ok (x,j))→i<j):∀k i l j,jmb T E k i=some (.ok (l,j))→i+l.length≤j∧0<l.length:=by
  intro k
  induction k with
  | zero=>intro i l j h;cases h
  | succ k ih =>
    intro i l j h;unfold jmb at h
    cases hE:E i with
    | none=>rw[hE] at h;cases h
    | some r =>
      cases r with
      | error a=>rw[hE] at h;cases h
      | ok z =>
        obtain ⟨x,q⟩:=z;have l1:=hlt _ _ _ hE;rw[hE] at h;simp only[ja7] at h;split at h
        · cases hS:jmb T E k (q+1) with
          | none=>rw[hS] at h;cases h
          | some r =>
            cases r with
            | error a=>rw[hS] at h;cases h
            | ok z =>
              obtain ⟨l',q2⟩:=z;have l2:=ih _ _ _ hS;rw[hS] at h;cases h;simp only[List.length_cons];omega
        · cases h;simp only[List.length_cons,List.length_nil];omega
theorem inPar_len {E:Nat→Option (Oc Nd)} (hlt:∀i x j,E i=some (.ok (x,j))→i<j) {k:Nat} {x:Nd} {j:Nat} (h:jk8 T len E k i=some (.ok (x,j))):i+x.kids.length<j:=by
  unfold jk8 at h
  cases hw:jbx T len [40] i with
  | error a=>rw[hw] at h;cases h
  | ok u =>
    obtain ⟨u,q⟩:=u;have l1:=jg4 hw;rw[hw] at h;simp only[ja7] at h;split at h
    · cases h;show i+0<q+1;omega
    · cases hS:jmb T E k q with
      | none=>rw[hS] at h;cases h
      | some r =>
        cases r with
        | error a=>rw[hS] at h;cases h
        | ok z =>
          obtain ⟨l',q2⟩:=z;have l2:=serQ_len hlt _ _ _ _ hS;rw[hS] at h;simp only[ja7] at h
          cases hw2:jbx T len [41] q2 with
          | error a=>rw[hw2] at h;cases h
          | ok u2 =>
            obtain ⟨u2,q3⟩:=u2;have l3:=jg4 hw2;rw[hw2] at h;cases h;show i+l'.length<_;omega
theorem gotC_fin {okn:Nat→Prop} {U w9:World} {y:Nd} {l:List Nd} {a:Int} {j m' d':Nat} {A':Option Addr} (hq:QW p A n c len T W w9 j) (hbu:Bt p U W) (hU:W.heap.size=U.heap.size+1)
    (ho:OwnQ w9 (W.heap.size+1) (fun g=>(okn g∧g<U.heap.size)∨W.heap.size+1≤g) (.slice A' m' d') (y :: l)) (hij:i<j) :
    GotM p A n c len T U okn i (.ok (.mk 20 [] a (laP T j) (y :: l),j)) (.returned (.agg #[.int .i64 20,.string ⟨#[]⟩,.int .i64 a,.int .i64 (laP T j),.slice A' m' d'])) (jex w9 W.heap.size (.int .i64 20) (.string ⟨#[]⟩) (.int .i64 a) (.int .i64 (laP T j)) (.slice A' m' d')):=by
  refine ⟨hbu.trans (jj1 hq.bt (Nat.le_refl _)),⟨_,_,_,rfl,?_⟩,hq.rs.at_ (jaj (Below.refl W.heap.size w9) (Nat.le_refl _)) hq.lt,hij⟩;have hn:=ho.node (fun g=>(okn g∧g<U.heap.size)∨W.heap.size+1≤g) (fun g h=>h) (fun g hg _=>Or.inr hg) 20 a (laP T j) [];exact hn.map (fun q hq _=>jd1 (by rcases hq with h | h<;>omega)) fun g hg _=>hg.elim (fun h=>Or.inl h.1) fun h=>Or.inr (by show U.heap.size≤g;omega)
theorem qcall {f:Nat} (ih:IHQ p A n c len T f):CalC p A n c len T f:=by
  intro U i okn a y B m d R hy hokp hrsU hR;obtain ⟨i0,hi0,hz0,hz1,hz2⟩:=info_parts jfd;have HIH:=jj ih;have H:=jj hR;have bu:=jak (Below.refl U.heap.size U) (.cells #[.int .i64 y.kind,.string (bs y.text),.int .i64 y.at_,.int .i64 y.en,.slice B m d] 25);have hF:=jae U (.int .i64 y.kind) (.string (bs y.text)) (.int .i64 y.at_) (.int .i64 y.en) (.slice B m d) 25;have hrs:=hrsU.keep bu;have hyW:=(hy.map (ok':=fun g=>okn g∧g<U.heap.size) (fun _ _ _=>rfl) (fun g h hl=>⟨h,hl⟩)).kept bu;have hn6:=hrsU.n6;(have hU:(U.alloc (.cells #[.int .i64 y.kind,.string (bs y.text),.int .i64 y.at_,.int .i64 y.en,.slice B m d] 25)).heap.size=U.heap.size+1:=by simp);have hlt:=hrsU.st.lt;obtain ⟨W,hW⟩:=jx (U.alloc (.cells #[.int .i64 y.kind,.string (bs y.text),.int .i64 y.at_,.int .i64 y.en,.slice B m d] 25));rw[hW] at hF hrs bu hyW hU;have BU:=jj (Bt.of bu p);have F0:=jj hF;have NE0:=jj (show U.heap.size≠p by omega);have Y0:=jj hyW;have HU:=jj hU;have HWU:=jj hW;have HOk:=jj (fun g (h:okn g∧g<U.heap.size)=>hokp g h.1);have h0:=QW.start hrs;obtain ⟨w0,hw0⟩:=jx (W.alloc (.cells #[.int .i64 0,.string ⟨#[]⟩,.int .i64 0,.int .i64 0,.slice none 0 0] 25));rw[hw0] at h0;have G0:=jj h0;have HW:=jj hw0;have HPL:=jj (show p<W.heap.size+1 by have:=hrs.st.lt;omega);clear h0 hw0;have F1:=jj (F0.out.keep (show Below W.heap.size W w0 by rw[←HW.out];exact jak (Below.refl _ W) _));have Y1:=jj (Y0.out.kept (show Below W.heap.size W w0 by rw[←HW.out];exact jak (Below.refl _ W) _));clear F0 Y0 hF bu hyW hy hokp hrs hrsU hR ih hU hW hlt;go_enter Tryz.func223,Tryz.ntmps223;go_wp2_with fail;rw[HWU.out,HW.out,←HU.out];clear HW HWU;obtain ⟨r1,hr1,hr2⟩:=jbt H.out;clear H;have H:=jj hr2;clear hr2;have HR1:=jj hr1;(with_reducible refine (qinpar (el_arg HIH.out) (fun i x j h=>argQ_lt h) G0.out.rs hr1).mono ?_);rintro e w4 ⟨b4,hr4⟩
  cases hq4:r1 with
  | error a =>
    rw[hq4] at hr4;obtain rfl:e=jbk a:=hr4;have hE:=H.out;(try simp only[hq4,ja7,ja4,ja9,ja5] at hE);cases hE;have BX:=jj (BU.out.trans (G0.out.bt.trans b4));clear b4 hq4;unfold jbk;go_wp2;exact ⟨rfl,BX.out,rfl⟩
  | ok z4 =>
    obtain ⟨l,i4⟩:=z4;rw[hq4] at hr4;obtain ⟨⟨qA4,qm4,qd4,rfl,hv4⟩,hs4,hl4⟩:=hr4;dsimp only at hl4 hs4 hv4;have hE:=H.out;clear H;(try simp only[hq4,ja7,ja4,ja9,ja5] at hE);have H:=jj hE;clear hE;have HQE:=jj hq4;clear hq4;(try dsimp only);have V1:=jj (hv4.wide (B':=W.heap.size+1) G0.out.size);have G4:=jj (G0.out.next hs4 b4);have V2:=jj (F1.out.bt b4 NE0.out);clear F1;have V3:=jj (Y1.out.bt b4 HOk.out);clear Y1;clear hs4 b4 G0 hv4;have hpos:=inPar_len (fun i x j h=>argQ_lt h) (HR1.out.trans (congrArg some HQE.out));clear HR1 HQE;clear hr1;have HPos:=jj hpos;clear hpos;have bl5:=jak (Below.refl _ w4) (.cells #[.int .i64 l.kind,.string (bs l.text),.int .i64 l.at_,.int .i64 l.en,.slice qA4 qm4 qd4] 25);obtain ⟨⟨-,y00,y01,y02,y03,y04⟩,-⟩:=V2.out.keep bl5;go_upto_region 2 with fail;clear y00 y01 y02 y03 y04;have hF5:=jae w4 (.int .i64 l.kind) (.string (bs l.text)) (.int .i64 l.at_) (.int .i64 l.en) (.slice qA4 qm4 qd4) 25;have NE5:=jj (show w4.heap.size≠p by have:=G4.out.size;have:=G4.out.lt;omega);obtain ⟨w5,hw5⟩:=jx (w4.alloc (.cells #[.int .i64 l.kind,.string (bs l.text),.int .i64 l.at_,.int .i64 l.en,.slice qA4 qm4 qd4] 25));have SZ5:=jj (show w5.heap.size=w4.heap.size+1 by rw[←hw5];simp);rw[hw5] at bl5 hF5 ⊢;clear hw5;have G5:=jj (G4.out.keep bl5);have V4:=jj (V1.out.kept bl5);clear V1;have V5:=jj (V2.out.keep bl5);clear V2;have V6:=jj (V3.out.kept bl5);clear V3;have F5:=jj hF5;clear bl5 hF5 G4;have hib:=G5.out.rs.ib;have hsz9:=G5.out.size;have hszk:w5.heap.size=w4.heap.size+1:=SZ5.out;have HO:=jj (jmw (w:=w5) (B:=W.heap.size+1) (q:=fun g=>(okn g∧g<U.heap.size)∨W.heap.size+1≤g) hsz9 (V6.out.map (fun _ _ _=>rfl) fun g hg _=>Or.inl hg) w5.heap.size rfl);have bl9:=jak (Below.refl w5.heap.size w5) (.cells #[.int .i64 y.kind,.string (bs y.text),.int .i64 y.at_,.int .i64 y.en,.slice B m d] 25);have HA:=jj ((kids_of V4.out).map (W':=w5.alloc (.cells #[.int .i64 y.kind,.string (bs y.text),.int .i64 y.at_,.int .i64 y.en,.slice B m d] 25)) (ok':=fun g=>((okn g∧g<U.heap.size)∨W.heap.size+1≤g)∧(Value.slice (some ⟨w5.heap.size,0,none⟩) 1 1).ownBlock≠some g) (fun _ _ hp=>bl9.cell hp) (fun g hg hlt=>⟨Or.inr hg,fun e=>by simp only[Value.ownBlock,Option.some.injEq] at e;omega⟩));have G9:=jj (G5.out.keep bl9);have HS9:=jj (show W.heap.size+1≤(w5.alloc (.cells #[.int .i64 y.kind,.string (bs y.text),.int .i64 y.at_,.int .i64 y.en,.slice B m d] 25)).heap.size by have:=bl9.size;omega);have HKl:=jj (show qm4=l.kids.length from (kids_of V4.out).len.1.symm);(have hm9:qm4≤2000000:=by have:=HKl.out;have:=HPos.out;omega);obtain ⟨⟨-,y0,y1,y2,y3,y4⟩,-⟩:=V5.out;obtain ⟨⟨-,z0,z1,z2,z3,z4⟩,-⟩:=F5.out.keep bl9;clear bl9 hszk hsz9 G5 V4 V6;go_wp2_with (at_builtin;refine wp_join_nd rfl (.tmp 13) (.tmp 15) 23 rfl i0 _ 64 Tryz.underlying23 hi0 hz0 hz1 hz2 rfl (W.heap.size+1) (fun g=>(okn g∧g<U.heap.size)∨W.heap.size+1≤g) _ [y] rfl _ HO.out HS9.out qA4 qm4 qd4 l.kids rfl HA.out (by simp;omega) (by unfold maxLen;simp;omega) ?_);intro v20 w20 ho20 b20 far20;obtain ⟨A20,m20,d20,vs20,rfl,-⟩:=ho20.s (fun _=>True) (fun _ _=>trivial) (fun _ _ _=>trivial);have G20:=jj (G9.out.push b20);have O20:=jj (show OwnQ w20 (W.heap.size+1) (fun g=>(okn g∧g<U.heap.size)∨W.heap.size+1≤g) (.slice A20 m20 d20) (y :: l.kids) from ho20);clear ho20 b20 far20 G9 HO HA HS9;clear y0 y1 y2 y3 y4 z0 z1 z2 z3 z4;go_wp2_with fail;(have h0p:0<i4:=by have:=HPos.out;omega);(with_reducible refine (jhi G20.out.rs (by omega) 20 _ _ _ _ _).mono ?_);rintro e w6 ⟨rfl,b6⟩;have G6:=jj (G20.out.keep b6);have V7:=jj (O20.out.below b6);clear O20;clear b6 G20;have hE:=H.out;clear H;cases hE;obtain ⟨⟨-,x0,x1,x2,x3,x4⟩,g0,g1,g2,g3,g4⟩:=G6.out.box;go_wp2;exact bodyPost_ret (jag rfl _ _ W.heap.size _ _ _ _ _ rfl (ja3 G6.out.box _ _ _ _ _)) rfl (gotC_fin G6.out BU.out HU.out V7.out (by have:=HPos.out;omega))
end
end
end Go.Proofs.YtonoklmobocikaaGreatDoor
