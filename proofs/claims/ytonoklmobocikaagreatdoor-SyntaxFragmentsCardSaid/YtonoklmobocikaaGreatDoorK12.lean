/- Lemmas. -/
import Derived.Test.YtonoklmobocikaaGreatDoorK11
set_option linter.unusedVariables false
set_option linter.unusedSimpArgs false
set_option maxRecDepth 20000
set_option maxHeartbeats 6400000
namespace Go.Proofs.YtonoklmobocikaaGreatDoor
section
open Go.RowKit
section
variable {W:World} {p:Nat} {A:Option Addr} {n c:Nat} {len:Int} {T:List Tk} {i:Nat}
theorem ja7 {α β:Type} (x:α × Nat) (k:α→Nat→Option (Oc β)):jaf (some (.ok x)) k=k x.1 x.2:=rfl
theorem ja4 {α β:Type} (a:Int) (k:α→Nat→Option (Oc β)):jaf (some (.error a)) k=some (.error a):=rfl
theorem ja9 {α β:Type} (x:α × Nat) (k:α→Nat→Oc β):jht (.ok x) k=k x.1 x.2:=rfl
theorem ja5 {α β:Type} (a:Int) (k:α→Nat→Oc β):jht (.error a) k=.error a:=rfl
theorem jhh (h:QS W p A n c len T i) (x:List UInt8) (hx:x≠[]) (z:ByteArray) (hz:z=bs x) (hc:jbg T i=x):Calls Tryz.prog 163 #[.pointer (some ⟨p,0,none⟩),.string z] W fun e w'=>e=.returned (.bool true)∧QS w' p A n c len T (i+1)∧Bt p W w':=by
  have:=qskip h x hx z hz;rw[if_pos hc,show (jbg T i==x)=true by rw[hc];simp] at this;exact this
theorem jiz (h:QS W p A n c len T i) (x:List UInt8) (hx:x≠[]) (z:ByteArray) (hz:z=bs x) (hc:¬jbg T i=x):Calls Tryz.prog 163 #[.pointer (some ⟨p,0,none⟩),.string z] W fun e w'=>e=.returned (.bool false)∧QS w' p A n c len T i∧Bt p W w':=by
  have:=qskip h x hx z hz;rw[if_neg hc,show (jbg T i==x)=false from beq_eq_false_iff_ne.2 hc] at this;exact this
theorem qtynm (hrs:QS W p A n c len T i):Calls Tryz.prog 202 #[.pointer (some ⟨p,0,none⟩)] W (GotT p A n c len T W i (jjn T len i)):=by
  obtain ⟨R,hR⟩:=jx (jjn T len i);rw[hR];have hS:=hrs.short;unfold jjn at hR;have H:=jj hR;have G0:=jj hrs;have B0:=jj (Bt.refl p W);have HPL:=jj hrs.st.lt;clear hrs hR;go_enter Tryz.func202,Tryz.ntmps202;go_wp2_with fail;(with_reducible refine (qname G0.out).mono ?_);rintro e w1 ⟨b1,hr1⟩
  cases hq1:jeb T len i with
  | error a =>
    rw[hq1] at hr1;obtain rfl:e=jbk a:=hr1;have hE:=H.out;(try simp only[hq1,ja7,ja4,ja9,ja5] at hE);cases hE;have BX:=jj (B0.out.trans b1);clear b1 hq1;unfold jbk;go_wp2;exact ⟨rfl,BX.out,rfl⟩
  | ok z1 =>
    obtain ⟨x,i1⟩:=z1;rw[hq1] at hr1;obtain ⟨rfl,hs1,hl1⟩:=hr1;have hz1:=nameO_len hq1 hS;dsimp only at hl1 hs1;have hE:=H.out;clear H;(try simp only[hq1,ja7,ja4,ja9,ja5] at hE);have H:=jj hE;clear hE;clear hq1;(try dsimp only);have G1:=jj hs1;have B1:=jj (B0.out.trans b1);clear B0;clear hs1 b1 G0;go_wp2_with fail;by_cases hc:jbg T i1=[46]
    · skip
      (with_reducible refine (jhh G1.out [46] (by decide) ⟨#[46]⟩ rfl hc).mono ?_);rintro e w2 ⟨rfl,hs2,b2⟩;have hE:=H.out;clear H;(try simp only[hc,ja7,ja4,ja9,ja5,if_true] at hE);have H:=jj hE;clear hE;have G2:=jj hs2;have B2:=jj (B1.out.trans b2);clear B1;clear hs2 b2 G1;obtain ⟨i2,hi2⟩:∃q,i1+1=q:=⟨_,rfl⟩;(have hl2:i1<i2:=by omega);rw[hi2] at H G2;clear hi2;go_wp2_with fail;(with_reducible refine (qname G2.out).mono ?_);rintro e w3 ⟨b3,hr3⟩
      cases hq3:jeb T len i2 with
      | error a =>
        rw[hq3] at hr3;obtain rfl:e=jbk a:=hr3;have hE:=H.out;(try simp only[hq3,ja7,ja4,ja9,ja5] at hE);cases hE;have BX:=jj (B2.out.trans b3);clear b3 hq3;unfold jbk;go_wp2;exact ⟨rfl,BX.out,rfl⟩
      | ok z3 =>
        obtain ⟨y,i3⟩:=z3;rw[hq3] at hr3;obtain ⟨rfl,hs3,hl3⟩:=hr3;have hz3:=nameO_len hq3 hS;dsimp only at hl3 hs3;have hE:=H.out;clear H;(try simp only[hq3,ja7,ja4,ja9,ja5] at hE);have H:=jj hE;clear hE;clear hq3;(try dsimp only);have G3:=jj hs3;have B3:=jj (B2.out.trans b3);clear B2;clear hs3 b3 G2;have hE:=H.out;clear H;cases hE;obtain ⟨z1,hz1'⟩:∃z,bs x=z:=⟨_,rfl⟩;obtain ⟨z2,hz2'⟩:∃z,bs y=z:=⟨_,rfl⟩;(have a1:z1.size≤100000:=by rw[←hz1',jbs];omega);(have a2:z2.size≤100000:=by rw[←hz2',jbs];omega);have HE:=jj (show z1++(⟨#[46]⟩++z2)=bs (x++46 :: y) by rw[←hz1',←hz2'];exact bs_dot2 x y);rw[hz1',hz2'];clear hz1' hz2';go_wp2;go_ret;exact ⟨B3.out,congrArg (fun z=>Ending.returned (.string z)) HE.out,G3.out,by omega⟩
    · skip
      (with_reducible refine (jiz G1.out [46] (by decide) ⟨#[46]⟩ rfl hc).mono ?_);rintro e w2 ⟨rfl,hs2,b2⟩;have hE:=H.out;clear H;(try simp only[hc,ja7,ja4,ja9,ja5,if_true,if_false] at hE);have H:=jj hE;clear hE;have G2:=jj hs2;have B2:=jj (B1.out.trans b2);clear B1;clear hs2 b2 G1;have hE:=H.out;clear H;cases hE;go_wp2;go_ret;exact ⟨B2.out,rfl,G2.out,by omega⟩
theorem qtyp (hrs:QS W p A n c len T i):Calls Tryz.prog 167 #[.pointer (some ⟨p,0,none⟩)] W (jgh p A n c len T W i (typO T len i)):=by
  obtain ⟨R,hR⟩:=jx (typO T len i);rw[hR];have hn:=hrs.tks.1;unfold typO at hR;by_cases hk:kT T i=6
  · have HK:=jj (fun X (hX:QS X p A n c len T i)=>show Calls Tryz.prog 123 #[.pointer (some ⟨p,0,none⟩)] X fun e w'=>e=.returned (.int .i64 6)∧X=w' by have:=ji5 hX;rw[hk] at this;exact this);(have hlt:i<n:=by have:=jl2 (T:=T) (j:=i) (by omega);omega);rw[if_pos hk] at hR;subst hR;clear hk;have h0:=QW.start hrs;obtain ⟨w0,hw0⟩:=jx (W.alloc (.cells #[.int .i64 0,.string ⟨#[]⟩,.int .i64 0,.int .i64 0,.slice none 0 0] 25));rw[hw0] at h0;have G0:=jj h0;have HW:=jj hw0;have HPL:=jj (show p<W.heap.size+1 by have:=hrs.st.lt;omega);clear h0 hw0;clear hrs hn;go_enter Tryz.func167,Tryz.ntmps167;go_wp2_with fail;rw[HW.out];clear HW;(with_reducible refine (HK.out _ G0.out.rs).mono ?_);rintro e wx ⟨rfl,rfl⟩;go_wp2_with fail;(with_reducible refine (qleaf G0.out.rs hlt 25).mono ?_);rintro e w1 ⟨b1,⟨qA1,qm1,qd1,rfl,hv1⟩,hs1,-⟩;have V1:=jj (hv1.wide (B':=W.heap.size+1) G0.out.size);have G1:=jj (G0.out.next hs1 b1);clear hs1 b1 hv1 G0
    skip
    obtain ⟨⟨-,x0,x1,x2,x3,x4⟩,g0,g1,g2,g3,g4⟩:=G1.out.box;go_wp2;exact bodyPost_ret (jag rfl _ _ W.heap.size _ _ _ _ _ rfl (ja3 G1.out.box _ _ _ _ _)) rfl (G1.out.fin (Nat.le_succ i) V1.out)
  · rw[if_neg hk] at hR;have H:=jj hR;have HK:=jj (fun X (hX:QS X p A n c len T i)=>ji5 hX);obtain ⟨K,hKe⟩:=jx (kT T i);rw[hKe] at HK;rw[hKe] at hk;have e0:(K==6)=false:=beq_eq_false_iff_ne.2 hk;have h0:=QW.start hrs;obtain ⟨w0,hw0⟩:=jx (W.alloc (.cells #[.int .i64 0,.string ⟨#[]⟩,.int .i64 0,.int .i64 0,.slice none 0 0] 25));rw[hw0] at h0;have G0:=jj h0;have HW:=jj hw0;have HPL:=jj (show p<W.heap.size+1 by have:=hrs.st.lt;omega);clear h0 hw0;clear hrs hn hR hk hKe;go_enter Tryz.func167,Tryz.ntmps167;go_wp2_with fail;rw[HW.out];clear HW;(with_reducible refine (HK.out _ G0.out.rs).mono ?_);rintro e wx ⟨rfl,rfl⟩;go_wp2_with fail;(with_reducible refine (jf8 G0.out.rs).mono ?_);rintro e w1 ⟨rfl,hd1⟩;have G1:=jj (G0.out.drawn hd1);clear hd1 G0;go_wp2_with fail;(with_reducible refine (qtynm G1.out.rs).mono ?_);rintro e w2 ⟨b2,hr2⟩
    cases hq2:jjn T len i with
    | error a =>
      rw[hq2] at hr2;obtain rfl:e=jbk a:=hr2;have hE:=H.out;(try simp only[hq2,ja7,ja4,ja9,ja5] at hE);cases hE;have BX:=jj (G1.out.bt.trans b2);clear b2 hq2;unfold jbk;go_wp2;exact ⟨rfl,BX.out,rfl⟩
    | ok z2 =>
      obtain ⟨x,i2⟩:=z2;rw[hq2] at hr2;obtain ⟨rfl,hs2,hl2⟩:=hr2;dsimp only at hl2 hs2;have hE:=H.out;clear H;(try simp only[hq2,ja7,ja4,ja9,ja5] at hE);have H:=jj hE;clear hE;clear hq2;(try dsimp only);have G2:=jj (G1.out.next hs2 b2);clear hs2 b2 G1;go_wp2_with fail;(with_reducible refine (jhi G2.out.rs (by omega) 8 _ _ _ _ _).mono ?_);rintro e w3 ⟨rfl,b3⟩;have G3:=jj (G2.out.keep b3);clear b3 G2;have hE:=H.out;clear H;cases hE;obtain ⟨⟨-,x0,x1,x2,x3,x4⟩,g0,g1,g2,g3,g4⟩:=G3.out.box;go_wp2;exact bodyPost_ret (jag rfl _ _ W.heap.size _ _ _ _ _ rfl (ja3 G3.out.box _ _ _ _ _)) rfl (G3.out.fin (by omega) (NdS.nil.node _ _ _ _))
theorem qsuper (hrs:QS W p A n c len T i):Calls Tryz.prog 204 #[.pointer (some ⟨p,0,none⟩)] W (jgh p A n c len T W i (jjp T len i)):=by
  obtain ⟨R,hR⟩:=jx (jjp T len i);rw[hR];have hn:=hrs.tks.1;unfold jjp at hR;by_cases hk:kT T i=7
  · have HK:=jj (fun X (hX:QS X p A n c len T i)=>show Calls Tryz.prog 123 #[.pointer (some ⟨p,0,none⟩)] X fun e w'=>e=.returned (.int .i64 7)∧X=w' by have:=ji5 hX;rw[hk] at this;exact this);(have hlt:i<n:=by have:=jl2 (T:=T) (j:=i) (by omega);omega);rw[if_pos hk] at hR;subst hR;clear hk;have h0:=QW.start hrs;obtain ⟨w0,hw0⟩:=jx (W.alloc (.cells #[.int .i64 0,.string ⟨#[]⟩,.int .i64 0,.int .i64 0,.slice none 0 0] 25));rw[hw0] at h0;have G0:=jj h0;have HW:=jj hw0;have HPL:=jj (show p<W.heap.size+1 by have:=hrs.st.lt;omega);clear h0 hw0;clear hrs hn;go_enter Tryz.func204,Tryz.ntmps204;go_wp2_with fail;rw[HW.out];clear HW;(with_reducible refine (HK.out _ G0.out.rs).mono ?_);rintro e wx ⟨rfl,rfl⟩;go_wp2_with fail;(with_reducible refine (qleaf G0.out.rs hlt 26).mono ?_);rintro e w1 ⟨b1,⟨qA1,qm1,qd1,rfl,hv1⟩,hs1,-⟩;have V1:=jj (hv1.wide (B':=W.heap.size+1) G0.out.size);have G1:=jj (G0.out.next hs1 b1);clear hs1 b1 hv1 G0
    skip
    obtain ⟨⟨-,x0,x1,x2,x3,x4⟩,g0,g1,g2,g3,g4⟩:=G1.out.box;go_wp2;exact bodyPost_ret (jag rfl _ _ W.heap.size _ _ _ _ _ rfl (ja3 G1.out.box _ _ _ _ _)) rfl (G1.out.fin (Nat.le_succ i) V1.out)
  · rw[if_neg hk] at hR;have H:=jj hR;have HK:=jj (fun X (hX:QS X p A n c len T i)=>ji5 hX);obtain ⟨K,hKe⟩:=jx (kT T i);rw[hKe] at HK;rw[hKe] at hk;have e0:(K==7)=false:=beq_eq_false_iff_ne.2 hk;have h0:=QW.start hrs;obtain ⟨w0,hw0⟩:=jx (W.alloc (.cells #[.int .i64 0,.string ⟨#[]⟩,.int .i64 0,.int .i64 0,.slice none 0 0] 25));rw[hw0] at h0;have G0:=jj h0;have HW:=jj hw0;have HPL:=jj (show p<W.heap.size+1 by have:=hrs.st.lt;omega);clear h0 hw0;clear hrs hn hR hk hKe;go_enter Tryz.func204,Tryz.ntmps204;go_wp2_with fail;rw[HW.out];clear HW;(with_reducible refine (HK.out _ G0.out.rs).mono ?_);rintro e wx ⟨rfl,rfl⟩;go_wp2_with fail;(with_reducible refine (qtyp G0.out.rs).mono ?_);rintro e w1 ⟨b1,hr1⟩
    cases hq1:typO T len i with
    | error a =>
      rw[hq1] at hr1;obtain rfl:e=jbk a:=hr1;have hE:=H.out;(try simp only[hq1,ja7,ja4,ja9,ja5] at hE);cases hE;have BX:=jj (G0.out.bt.trans b1);clear b1 hq1;unfold jbk;go_wp2;exact ⟨rfl,BX.out,rfl⟩
    | ok z1 =>
      obtain ⟨x,i1⟩:=z1;rw[hq1] at hr1;obtain ⟨⟨qA1,qm1,qd1,rfl,hv1⟩,hs1,hl1⟩:=hr1;dsimp only at hl1 hs1 hv1;have hE:=H.out;clear H;(try simp only[hq1,ja7,ja4,ja9,ja5] at hE);have H:=jj hE;clear hE;clear hq1;(try dsimp only);have V1:=jj (hv1.wide (B':=W.heap.size+1) G0.out.size);have G1:=jj (G0.out.next hs1 b1);clear hs1 b1 G0 hv1;have hE:=H.out;clear H;cases hE;obtain ⟨⟨-,x0,x1,x2,x3,x4⟩,g0,g1,g2,g3,g4⟩:=G1.out.box;go_wp2;exact bodyPost_ret (jag rfl _ _ W.heap.size _ _ _ _ _ rfl (ja3 G1.out.box _ _ _ _ _)) rfl (G1.out.fin (by omega) V1.out)
theorem qparam (hrs:QS W p A n c len T i):Calls Tryz.prog 207 #[.pointer (some ⟨p,0,none⟩)] W (jgh p A n c len T W i (jg0 T len i)):=by
  obtain ⟨R,hR⟩:=jx (jg0 T len i);rw[hR];have hn:=hrs.tks.1;unfold jg0 at hR;by_cases hk:kT T i=7
  · have HK:=jj (fun X (hX:QS X p A n c len T i)=>show Calls Tryz.prog 123 #[.pointer (some ⟨p,0,none⟩)] X fun e w'=>e=.returned (.int .i64 7)∧X=w' by have:=ji5 hX;rw[hk] at this;exact this);(have hlt:i<n:=by have:=jl2 (T:=T) (j:=i) (by omega);omega);rw[if_pos hk] at hR;subst hR;clear hk;have h0:=QW.start hrs;obtain ⟨w0,hw0⟩:=jx (W.alloc (.cells #[.int .i64 0,.string ⟨#[]⟩,.int .i64 0,.int .i64 0,.slice none 0 0] 25));rw[hw0] at h0;have G0:=jj h0;have HW:=jj hw0;have HPL:=jj (show p<W.heap.size+1 by have:=hrs.st.lt;omega);clear h0 hw0;clear hrs hn;go_enter Tryz.func207,Tryz.ntmps207;go_wp2_with fail;rw[HW.out];clear HW;(with_reducible refine (HK.out _ G0.out.rs).mono ?_);rintro e wx ⟨rfl,rfl⟩;go_wp2_with fail;(with_reducible refine (qleaf G0.out.rs hlt 26).mono ?_);rintro e w1 ⟨b1,⟨qA1,qm1,qd1,rfl,hv1⟩,hs1,-⟩;have V1:=jj (hv1.wide (B':=W.heap.size+1) G0.out.size);have G1:=jj (G0.out.next hs1 b1);clear hs1 b1 hv1 G0
    skip
    obtain ⟨⟨-,x0,x1,x2,x3,x4⟩,g0,g1,g2,g3,g4⟩:=G1.out.box;go_wp2;exact bodyPost_ret (jag rfl _ _ W.heap.size _ _ _ _ _ rfl (ja3 G1.out.box _ _ _ _ _)) rfl (G1.out.fin (Nat.le_succ i) V1.out)
  · rw[if_neg hk] at hR;have H:=jj hR;have HK:=jj (fun X (hX:QS X p A n c len T i)=>ji5 hX);obtain ⟨K,hKe⟩:=jx (kT T i);rw[hKe] at HK;rw[hKe] at hk;have e0:(K==7)=false:=beq_eq_false_iff_ne.2 hk;have h0:=QW.start hrs;obtain ⟨w0,hw0⟩:=jx (W.alloc (.cells #[.int .i64 0,.string ⟨#[]⟩,.int .i64 0,.int .i64 0,.slice none 0 0] 25));rw[hw0] at h0;have G0:=jj h0;have HW:=jj hw0;have HPL:=jj (show p<W.heap.size+1 by have:=hrs.st.lt;omega);clear h0 hw0;clear hrs hn hR hk hKe;go_enter Tryz.func207,Tryz.ntmps207;go_wp2_with fail;rw[HW.out];clear HW;(with_reducible refine (HK.out _ G0.out.rs).mono ?_);rintro e wx ⟨rfl,rfl⟩;go_wp2_with fail;(with_reducible refine (jf8 G0.out.rs).mono ?_);rintro e w1 ⟨rfl,hd1⟩;have G1:=jj (G0.out.drawn hd1);clear hd1 G0;go_wp2_with fail;(with_reducible refine (qname G1.out.rs).mono ?_);rintro e w2 ⟨b2,hr2⟩
    cases hq2:jeb T len i with
    | error a =>
      rw[hq2] at hr2;obtain rfl:e=jbk a:=hr2;have hE:=H.out;(try simp only[hq2,ja7,ja4,ja9,ja5] at hE);cases hE;have BX:=jj (G1.out.bt.trans b2);clear b2 hq2;unfold jbk;go_wp2;exact ⟨rfl,BX.out,rfl⟩
    | ok z2 =>
      obtain ⟨x,i2⟩:=z2;rw[hq2] at hr2;obtain ⟨rfl,hs2,hl2⟩:=hr2;dsimp only at hl2 hs2;have hE:=H.out;clear H;(try simp only[hq2,ja7,ja4,ja9,ja5] at hE);have H:=jj hE;clear hE;clear hq2;(try dsimp only);have G2:=jj (G1.out.next hs2 b2);clear hs2 b2 G1;go_wp2_with fail;(with_reducible refine (jgz G2.out.rs [58] (by decide) ⟨#[58]⟩ rfl).mono ?_);rintro e w3 ⟨b3,hr3⟩
      cases hq3:jbx T len [58] i2 with
      | error a =>
        rw[hq3] at hr3;obtain rfl:e=jbk a:=hr3;have hE:=H.out;(try simp only[hq3,ja7,ja4,ja9,ja5] at hE);cases hE;have BX:=jj (G2.out.bt.trans b3);clear b3 hq3;unfold jbk;go_wp2;exact ⟨rfl,BX.out,rfl⟩
      | ok z3 =>
        obtain ⟨⟨⟩,i3⟩:=z3;rw[hq3] at hr3;obtain ⟨rfl,hs3,hl3⟩:=hr3;dsimp only at hl3 hs3;have hE:=H.out;clear H;(try simp only[hq3,ja7,ja4,ja9,ja5] at hE);have H:=jj hE;clear hE;clear hq3;(try dsimp only);have G3:=jj (G2.out.next hs3 b3);clear hs3 b3 G2;go_wp2_with fail;(with_reducible refine (qtyp G3.out.rs).mono ?_);rintro e w4 ⟨b4,hr4⟩
        cases hq4:typO T len i3 with
        | error a =>
          rw[hq4] at hr4;obtain rfl:e=jbk a:=hr4;have hE:=H.out;(try simp only[hq4,ja7,ja4,ja9,ja5] at hE);cases hE;have BX:=jj (G3.out.bt.trans b4);clear b4 hq4;unfold jbk;go_wp2;exact ⟨rfl,BX.out,rfl⟩
        | ok z4 =>
          obtain ⟨t,i4⟩:=z4;rw[hq4] at hr4;obtain ⟨⟨qA4,qm4,qd4,rfl,hv4⟩,hs4,hl4⟩:=hr4;dsimp only at hl4 hs4 hv4;have hE:=H.out;clear H;(try simp only[hq4,ja7,ja4,ja9,ja5] at hE);have H:=jj hE;clear hE;clear hq4;(try dsimp only);have V1:=jj (hv4.wide (B':=W.heap.size+1) G3.out.size);have G4:=jj (G3.out.next hs4 b4);clear hs4 b4 G3 hv4;have bl5:=jak (Below.refl _ w4) (.cells #[.int .i64 t.kind,.string (bs t.text),.int .i64 t.at_,.int .i64 t.en,.slice qA4 qm4 qd4] 25);go_wp2_with fail;have hF5:=jae w4 (.int .i64 t.kind) (.string (bs t.text)) (.int .i64 t.at_) (.int .i64 t.en) (.slice qA4 qm4 qd4) 25;have NE5:=jj (show w4.heap.size≠p by have:=G4.out.size;have:=G4.out.lt;omega);obtain ⟨w5,hw5⟩:=jx (w4.alloc (.cells #[.int .i64 t.kind,.string (bs t.text),.int .i64 t.at_,.int .i64 t.en,.slice qA4 qm4 qd4] 25));have SZ5:=jj (show w5.heap.size=w4.heap.size+1 by rw[←hw5];simp);rw[hw5] at bl5 hF5 ⊢;clear hw5;have G5:=jj (G4.out.keep bl5);have V2:=jj (V1.out.kept bl5);clear V1;have F5:=jj hF5;clear bl5 hF5 G4;have ho6:=jjc (w:=w5) (B:=W.heap.size+1) G5.out.size V2.out (w4.heap.size+1) SZ5.out.symm;have bl6:=jak (Below.refl _ w5) (.cells #[.int .i64 t.kind,.string (bs t.text),.int .i64 t.at_,.int .i64 t.en,.slice qA4 qm4 qd4] 25);obtain ⟨w6,hw6⟩:=jx (w5.alloc (.cells #[.int .i64 t.kind,.string (bs t.text),.int .i64 t.at_,.int .i64 t.en,.slice qA4 qm4 qd4] 25));rw[hw6] at bl6 ho6 ⊢;clear hw6;have G6:=jj (G5.out.keep bl6);have V3:=jj (V2.out.kept bl6);clear V2;have V4:=jj (F5.out.keep bl6);clear F5;have V5:=jj ho6;clear bl6 ho6 G5;(with_reducible refine (jhi G6.out.rs (by omega) 7 _ _ _ _ _).mono ?_);rintro e w7 ⟨rfl,b7⟩;have G7:=jj (G6.out.keep b7);have V6:=jj (V3.out.kept b7);clear V3;have V7:=jj (V5.out.below b7);clear V5;have V8:=jj (V4.out.keep b7);clear V4;clear b7 G6;have hE:=H.out;clear H;cases hE;obtain ⟨⟨-,x0,x1,x2,x3,x4⟩,g0,g1,g2,g3,g4⟩:=G7.out.box;obtain ⟨⟨-,y00,y01,y02,y03,y04⟩,-⟩:=V8.out;go_wp2;exact bodyPost_ret (jag rfl _ _ W.heap.size _ _ _ _ _ rfl (ja3 G7.out.box _ _ _ _ _)) rfl (G7.out.fin (by omega) (V7.out.sl.node _ _ _ _))
end
end
section
open Go.RowKit
section
variable {W:World} {p:Nat} {A:Option Addr} {n c:Nat} {len:Int} {T:List Tk} {i:Nat}
structure ElQ (p:Nat) (A:Option Addr) (n c:Nat) (len:Int) (T:List Tk) (N:Nat) (E:Nat→Option (Oc Nd)):Prop where
  run:∀(xs:Array Value) (W:World),(callFunc N xs).run Tryz.prog W=.ok (.enter N xs) W
  el:∀(X:World) (j:Nat) (R:Oc Nd),QS X p A n c len T j→E j=some R→Calls Tryz.prog N #[.pointer (some ⟨p,0,none⟩)] X (jgh p A n c len T X j R)
def jhn (p n:Nat) (w:World):Nat:=match w.cell? ⟨p,1,none⟩ with | some (.int _ i)=>n - i.toNat | _=>0
theorem QS.left (h:QS W p A n c len T i):jhn p n W=n - i:=by
  unfold jhn;rw[h.cells.2.1];simp
theorem ser_acc (E:Nat→Option (Oc Nd)) (k j:Nat) (acc:List Nd):(jaf (jmb T E (k+1) j) fun (l:List Nd) j2=>some (Except.ok (acc++l,j2)))=jaf (E j) fun x j1=>jaf (jih T E k j1) fun (l:List Nd) j2=>some (Except.ok ((acc++[x])++l,j2)):=by
  rw[jgv,je0];congr 1;funext x j1;rw[je0];congr 1;funext l j2;simp[jaf]
theorem jbt {α β:Type} {o:Option (Oc β)} {k:β→Nat→Option (Oc α)} {R:Oc α} (h:jaf o k=some R):∃r,o=some r∧jaf (some r) k=some R:=by
  cases o with
  | none=>cases h
  | some r=>exact ⟨r,rfl,h⟩
theorem qopt {N:Nat} {E:Nat→Option (Oc Nd)} (hel:ElQ p A n c len T N E) (x:List UInt8) (hx:x≠[]) (z:ByteArray) (hz:z=bs x) (hrs:QS W p A n c len T i) (h0:0<i) {R:Oc Nd} (hR:optQ T E x i=some R) :
    Calls Tryz.prog 166 #[.pointer (some ⟨p,0,none⟩),.string z,.func (.func N) #[] #[]] W (jgh p A n c len T W i R):=by
  obtain ⟨i0,hi0,hz0,hz1,hz2⟩:=info_parts jfd;unfold optQ at hR;have hn6:=hrs.n6;have HZ:=jj hz;have hcf:=hel.run;have HEl:=jj hel;have h0:=QW.start hrs;obtain ⟨w0,hw0⟩:=jx (W.alloc (.cells #[.int .i64 0,.string ⟨#[]⟩,.int .i64 0,.int .i64 0,.slice none 0 0] 25));rw[hw0] at h0;have G0:=jj h0;have HW:=jj hw0;have HPL:=jj (show p<W.heap.size+1 by have:=hrs.st.lt;omega);clear h0 hw0;have H:=jj hR;clear hrs hR hel hz;by_cases hc:jbg T i=x
  · go_enter Tryz.func166,Tryz.ntmps166;go_wp2_with fail;rw[HW.out];clear HW;(with_reducible refine (qend G0.out.rs (by omega)).mono ?_);rintro e w1 ⟨rfl,hd1⟩;have G1:=jj (G0.out.drawn hd1);clear hd1 G0;go_wp2_with fail;(with_reducible refine (jhh G1.out.rs x hx z HZ.out hc).mono ?_);rintro e w2 ⟨rfl,hs2,b2⟩;have hE:=H.out;clear H;rw[if_pos hc] at hE;have H:=jj hE;clear hE;have G2:=jj (G1.out.next hs2 b2);clear hs2 b2 G1;obtain ⟨i2,hi2⟩:∃q,i+1=q:=⟨_,rfl⟩;(have hl2:i<i2:=by omega);rw[hi2] at H G2;clear hi2;go_wp2_with fail;obtain ⟨r1,hr1,hr2⟩:=jbt H.out;clear H;have H:=jj hr2;clear hr2;(with_reducible refine (HEl.out.el _ _ _ G2.out.rs hr1).mono ?_);rintro e w3 ⟨b3,hr3⟩
    cases hq3:r1 with
    | error a =>
      rw[hq3] at hr3;obtain rfl:e=jbk a:=hr3;have hE:=H.out;(try simp only[hq3,ja7,ja4,ja9,ja5] at hE);cases hE;have BX:=jj (G2.out.bt.trans b3);clear b3 hq3;unfold jbk;go_wp2;exact ⟨rfl,BX.out,rfl⟩
    | ok z3 =>
      obtain ⟨q,i3⟩:=z3;rw[hq3] at hr3;obtain ⟨⟨qA3,qm3,qd3,rfl,hv3⟩,hs3,hl3⟩:=hr3;dsimp only at hl3 hs3 hv3;have hE:=H.out;clear H;(try simp only[hq3,ja7,ja4,ja9,ja5] at hE);have H:=jj hE;clear hE;clear hq3;(try dsimp only);have V1:=jj (hv3.wide (B':=W.heap.size+1) G2.out.size);have G3:=jj (G2.out.next hs3 b3);clear hs3 b3 G2 hv3;clear hr1;go_wp2_with fail;have ho4:=jjc (w:=w3) (B:=W.heap.size+1) G3.out.size V1.out w3.heap.size rfl;have bl4:=jak (Below.refl _ w3) (.cells #[.int .i64 q.kind,.string (bs q.text),.int .i64 q.at_,.int .i64 q.en,.slice qA3 qm3 qd3] 25);obtain ⟨w4,hw4⟩:=jx (w3.alloc (.cells #[.int .i64 q.kind,.string (bs q.text),.int .i64 q.at_,.int .i64 q.en,.slice qA3 qm3 qd3] 25));rw[hw4] at bl4 ho4 ⊢;clear hw4;have G4:=jj (G3.out.keep bl4);have V2:=jj (V1.out.kept bl4);clear V1;have V3:=jj ho4;clear bl4 ho4 G3;have HLs:=jj (qlist (V3.out.sl) (by omega) (jao T ⟨i,none⟩));have V4:=jj ((V3.out.sl).listV (jao T ⟨i,none⟩));(with_reducible refine (HLs.out).mono ?_);rintro e w5 ⟨rfl,b5⟩;have G5:=jj (G4.out.keep b5);have V5:=jj (V2.out.kept b5);clear V2;have V6:=jj (V4.out.kept b5);clear V4;have V7:=jj (V3.out.below b5);clear V3;clear b5 G4;clear HLs;have hE:=H.out;clear H;cases hE;obtain ⟨⟨-,x0,x1,x2,x3,x4⟩,g0,g1,g2,g3,g4⟩:=G5.out.box;go_wp2;exact bodyPost_ret (jag rfl _ _ W.heap.size _ _ _ _ _ rfl (ja3 G5.out.box _ _ _ _ _)) rfl (G5.out.fin (by omega) V6.out)
  · go_enter Tryz.func166,Tryz.ntmps166;go_wp2_with fail;rw[HW.out];clear HW;(with_reducible refine (qend G0.out.rs (by omega)).mono ?_);rintro e w1 ⟨rfl,hd1⟩;have G1:=jj (G0.out.drawn hd1);clear hd1 G0;go_wp2_with fail;(with_reducible refine (jiz G1.out.rs x hx z HZ.out hc).mono ?_);rintro e w2 ⟨rfl,hs2,b2⟩;have hE:=H.out;clear H;rw[if_neg hc] at hE;have H:=jj hE;clear hE;have G2:=jj (G1.out.next hs2 b2);clear hs2 b2 G1;go_wp2_with fail;have HLs:=jj (qlist (NdS.nil (W:=w2) (ok:=fun g=>W.heap.size+1≤g)) (by omega) (jao T ⟨i,none⟩));have V1:=jj ((NdS.nil (W:=w2) (ok:=fun g=>W.heap.size+1≤g)).listV (jao T ⟨i,none⟩));(with_reducible refine (HLs.out).mono ?_);rintro e w3 ⟨rfl,b3⟩;have G3:=jj (G2.out.keep b3);have V2:=jj (V1.out.kept b3);clear V1;clear b3 G2;clear HLs;have hE:=H.out;clear H;cases hE;obtain ⟨⟨-,x0,x1,x2,x3,x4⟩,g0,g1,g2,g3,g4⟩:=G3.out.box;go_wp2;exact bodyPost_ret (jag rfl _ _ W.heap.size _ _ _ _ _ rfl (ja3 G3.out.box _ _ _ _ _)) rfl (G3.out.fin (Nat.le_refl i) V2.out)
set_option maxHeartbeats 12800000 in
theorem qser {N:Nat} {E:Nat→Option (Oc Nd)} (hel:ElQ p A n c len T N E) (hlt:∀i x j,E i=some (.ok (x,j))→i<j) (hrs:QS W p A n c len T i) {k:Nat} {R:Oc (List Nd)} (hR:jmb T E k i=some R) :
    Calls Tryz.prog 203 #[.pointer (some ⟨p,0,none⟩),.func (.func N) #[] #[]] W (GotW p A n c len T W i R):=by
  obtain ⟨i0,hi0,hz0,hz1,hz2⟩:=info_parts jfd
  cases k with
  | zero=>cases hR
  | succ k =>
  rw[jgv] at hR;have hn6:=hrs.n6;have hcf:=hel.run;have HEl:=jj hel;have HLt:=jj hlt;have G0:=jj hrs;have B0:=jj (Bt.refl p W);have HPL:=jj hrs.st.lt;have H:=jj hR;clear hrs hR hel hlt;go_enter Tryz.func203,Tryz.ntmps203;go_wp2_with fail;obtain ⟨r1,hr1,hr2⟩:=jbt H.out;clear H;have H:=jj hr2;clear hr2;have HR1:=jj hr1;(with_reducible refine (HEl.out.el _ _ _ G0.out hr1).mono ?_);rintro e w1 ⟨b1,hr1⟩
  cases hq1:r1 with
  | error a =>
    rw[hq1] at hr1;obtain rfl:e=jbk a:=hr1;have hE:=H.out;rw[hq1] at hE;cases hE;have BX:=jj (B0.out.trans b1);clear b1 hq1;unfold jbk;go_wp2;exact ⟨rfl,BX.out,rfl⟩
  | ok z1 =>
    obtain ⟨q,i1⟩:=z1;rw[hq1] at hr1;obtain ⟨⟨qA1,qm1,qd1,rfl,hv1⟩,hs1,hl1⟩:=hr1;dsimp only at hl1 hs1 hv1;have hE:=H.out;rw[hq1] at hE;have H:=jj (show (jaf (jih T E k i1) fun (l:List Nd) j2=>some (.ok (q :: l,j2)))=some R from hE);clear hE;have HQE:=jj hq1;clear hq1;(try dsimp only);have V1:=jj (hv1.wide (B':=W.heap.size) B0.out.size);have G1:=jj hs1;have B1:=jj (B0.out.trans b1);clear B0;clear hs1 b1 G0 hv1;have HQI:=jj (HLt.out _ _ _ (HR1.out.trans (congrArg some HQE.out)));clear HR1 HQE;clear hr1
    skip
    go_wp2_with fail;have ho2:=jjc (w:=w1) (B:=W.heap.size) B1.out.size V1.out w1.heap.size rfl;have bl2:=jak (Below.refl _ w1) (.cells #[.int .i64 q.kind,.string (bs q.text),.int .i64 q.at_,.int .i64 q.en,.slice qA1 qm1 qd1] 25);obtain ⟨w2,hw2⟩:=jx (w1.alloc (.cells #[.int .i64 q.kind,.string (bs q.text),.int .i64 q.at_,.int .i64 q.en,.slice qA1 qm1 qd1] 25));rw[hw2] at bl2 ho2 ⊢;clear hw2;have G2:=jj (G1.out.keep bl2);have B2:=jj (B1.out.trans (Bt.of bl2 p));clear B1;have V2:=jj (V1.out.kept bl2);clear V1;have V3:=jj ho2;clear bl2 ho2 G1;have HMS:=jj (G2.out.left)
    go_loopw [5] (fun u wr=>∃(acc:List Nd) (j k':Nat),OwnN wr W.heap.size u acc∧QS wr p A n c len T j∧Bt p W wr∧(jaf (jih T E k' j) fun (l:List Nd) j2=>some (.ok (acc++l,j2)))=some R∧i+acc.length≤j) (fun _ wr=>jhn p n wr)
    case atStart=>exact ⟨[q],i1,k,V3.out,G2.out,B2.out,H.out,by have:=HQI.out;simp;omega⟩
    case round =>
      clear G2 B2 H HMS V3 HQI;obtain ⟨acc,j,k',ho,hs,hbt,hsp,hl⟩:=hrel;obtain ⟨wo,hwo⟩:∃wo,wo=wr:=⟨wr,rfl⟩;subst hwo;obtain ⟨A0,m0,d0,rfl,-⟩:=ho.nds;have Hleft:=jj hs.left;have hjn:=hs.ib;have HAL:=jj (show acc.length≤2000001 by omega);have G0:=jj hs;have B0:=jj hbt;have O0:=jj ho;have H:=jj hsp;clear ho hs hbt hsp;by_cases hc:jbg T j=[44]
      · skip
        have hE:=H.out;clear H;unfold jih at hE;rw[if_pos hc] at hE
        cases k' with
        | zero=>cases hE
        | succ k' =>
        rw[ser_acc] at hE;have H:=jj hE;clear hE;have O1:=jj (show ∀X u r,NdV X (fun g=>wo.heap.size≤g) u r→NdV X (fun g=>W.heap.size≤g∧(Value.slice A0 m0 d0).ownBlock≠some g) u r from fun X u r h=>h.fresh O0.out B0.out.size);go_wp2_with fail;(with_reducible refine (jhh G0.out [44] (by decide) ⟨#[44]⟩ rfl hc).mono ?_);rintro e w21 ⟨rfl,hs21,b21⟩;have HSR:=jj b21.size;have G21:=jj hs21;have B21:=jj (B0.out.trans b21);clear B0 G0;have V1:=jj (O0.out.bt b21 HPL.out);clear O0;clear hs21 b21;go_wp2_with fail;obtain ⟨r1,hr1,hr2⟩:=jbt H.out;clear H;have H:=jj hr2;clear hr2;have HR1:=jj hr1;(with_reducible refine (HEl.out.el _ _ _ G21.out hr1).mono ?_);rintro e w22 ⟨b22,hr22⟩
        cases hq22:r1 with
        | error a =>
          rw[hq22] at hr22;obtain rfl:e=jbk a:=hr22;have hE:=H.out;rw[hq22] at hE;cases hE;have BX:=jj (B21.out.trans b22);clear b22 hq22;unfold jbk;go_wp2;exact ⟨rfl,BX.out,rfl⟩
        | ok z22 =>
          obtain ⟨y,i22⟩:=z22;rw[hq22] at hr22;obtain ⟨⟨qA22,qm22,qd22,rfl,hv22⟩,hs22,hl22⟩:=hr22;dsimp only at hl22 hs22 hv22;have hE:=H.out;rw[hq22] at hE;have H:=jj (show (jaf (jih T E k' i22) fun (l:List Nd) j2=>some (.ok ((acc++[y])++l,j2)))=some R from hE);clear hE;have HQE:=jj hq22;clear hq22;(try dsimp only);have V2:=jj (hv22.wide (B':=wo.heap.size) HSR.out);have G22:=jj hs22;have B22:=jj (B21.out.trans b22);clear B21;have V3:=jj (V1.out.bt b22 HPL.out);clear V1;clear hs22 b22 G21 hv22;have HQI:=jj (HLt.out _ _ _ (HR1.out.trans (congrArg some HQE.out)));clear HR1 HQE;clear hr1;have V4:=jj (O1.out _ _ _ V2.out);clear V2;go_wp2_with (at_builtin;refine jc5 rfl (.tmp 12) (.tmp 16) 23 rfl i0 _ 64 Tryz.underlying23 hi0 hz0 hz1 hz2 rfl (W.heap.size) (.slice A0 m0 d0) acc rfl w22 _ _ _ _ _ y V3.out B22.out.size _ rfl rfl V4.out (by have:=HAL.out;omega) (by have:=HAL.out;unfold maxLen;omega) ?_);intro v23 w23 ho23 b23 far23;obtain ⟨qA23,qm23,qd23,rfl,-⟩:=ho23.nds;have G23:=jj (G22.out.at_ b23 HPL.out);have B23:=jj (B22.out.then_below b23 (Nat.le_refl _));clear B22;have V5:=jj ho23;clear b23 ho23 far23 V4 V3 G22;have Hl2:=jj (G23.out.left);go_wp2;go_roundw
          case rel=>exact ⟨acc++[y],i22,k',V5.out,G23.out,B23.out,H.out,by have:=HQI.out;simp only[List.length_append,List.length_cons,List.length_nil];omega⟩
          case measure=>show jhn p n _<jhn p n _;rw[Hl2.out,Hleft.out];have:=HQI.out;have:=G23.out.ib;omega
      · skip
        have hE:=H.out;clear H;unfold jih at hE;rw[if_neg hc] at hE;have H:=jj hE;clear hE;go_wp2_with fail;(with_reducible refine (jiz G0.out [44] (by decide) ⟨#[44]⟩ rfl hc).mono ?_);rintro e w21 ⟨rfl,hs21,b21⟩;have G21:=jj hs21;have B21:=jj (B0.out.trans b21);clear B0 G0;have V1:=jj (O0.out.bt b21 HPL.out);clear O0;clear hs21 b21;have hE:=H.out;clear H;cases hE;go_wp2;go_ret;exact ⟨B21.out,⟨_,_,_,rfl,by rw[List.append_nil];exact V1.out⟩,G21.out,by rw[List.append_nil];exact hl⟩
end
end
end Go.Proofs.YtonoklmobocikaaGreatDoor
