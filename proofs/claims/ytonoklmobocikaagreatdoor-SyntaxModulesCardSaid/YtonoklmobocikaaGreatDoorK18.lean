/- Lemmas. -/
import Derived.Test.YtonoklmobocikaaGreatDoorK17
set_option linter.unusedVariables false
set_option linter.unusedSimpArgs false
set_option maxRecDepth 20000
set_option maxHeartbeats 6400000
namespace Go.Proofs.YtonoklmobocikaaGreatDoor
section
open Go.RowKit
section
variable {W:World} {p:Nat} {A:Option Addr} {n c:Nat} {len:Int} {T:List Tk} {i:Nat}
theorem qstmt {f:Nat} (ih:IHQ p A n c len T f) (hrs:QS W p A n c len T i) {R:Oc Nd} (hR:stmtQ T len (jbc T len f) i=some R):Calls Tryz.prog 72 #[.pointer (some ⟨p,0,none⟩)] W (jgh p A n c len T W i R):=by
  have hn6:=hrs.n6;have hib:=hrs.ib;unfold stmtQ at hR;by_cases c0:jbg T i=jji
  · rw[if_pos c0] at hR;have HC:=jj (fun X hX=>ih _ _ _ hR X hX);obtain ⟨Y,hY⟩:=jx (jbg T i);have HF:=jj (fun X (hX:QS X p A n c len T i)=>show Calls Tryz.prog 110 #[.pointer (some ⟨p,0,none⟩)] X fun e w'=>e=.returned (.string (bs Y))∧X=w' by rw[←hY];exact jfz hX);rw[hY] at c0;have e0:((bs Y).toList==[118,97,114])=true:=jda c0;clear ih hR hY  c0;have h0:=QW.start hrs;obtain ⟨w0,hw0⟩:=jx (W.alloc (.cells #[.int .i64 0,.string ⟨#[]⟩,.int .i64 0,.int .i64 0,.slice none 0 0] 25));rw[hw0] at h0;have G0:=jj h0;have HW:=jj hw0;have HPL:=jj (show p<W.heap.size+1 by have:=hrs.st.lt;omega);clear h0 hw0;clear hrs;go_enter Tryz.func72,Tryz.ntmps72;go_wp2_with fail;rw[HW.out];clear HW;(with_reducible refine (HF.out _ G0.out.rs).mono ?_);rintro e wx ⟨rfl,rfl⟩;go_wp2_with fail;(with_reducible refine (HC.out _ G0.out.rs).mono ?_);rintro e w1 ⟨b1,hr1⟩
    cases R with
    | error a =>
      obtain rfl:e=jbk a:=hr1;have BX:=jj (G0.out.bt.trans b1);clear b1;unfold jbk;go_wp2;exact ⟨rfl,BX.out,rfl⟩
    | ok z =>
      obtain ⟨y,q⟩:=z;obtain ⟨⟨qA1,qm1,qd1,rfl,hv1⟩,hs1,hl1⟩:=hr1;dsimp only at hl1 hs1 hv1 ⊢;have V1:=jj (hv1.wide (B':=W.heap.size+1) G0.out.size);have G1:=jj (G0.out.next hs1 b1);clear hs1 b1 hv1 G0;obtain ⟨⟨-,x0,x1,x2,x3,x4⟩,g0,g1,g2,g3,g4⟩:=G1.out.box;go_wp2;exact bodyPost_ret (jag rfl _ _ W.heap.size _ _ _ _ _ rfl (ja3 G1.out.box _ _ _ _ _)) rfl (G1.out.fin (by omega) V1.out)
  rw[if_neg c0] at hR;by_cases c1:jbg T i=[123]
  · rw[if_pos c1] at hR;have HC:=jj (fun X hX=>ih _ _ _ hR X hX);obtain ⟨Y,hY⟩:=jx (jbg T i);have HF:=jj (fun X (hX:QS X p A n c len T i)=>show Calls Tryz.prog 110 #[.pointer (some ⟨p,0,none⟩)] X fun e w'=>e=.returned (.string (bs Y))∧X=w' by rw[←hY];exact jfz hX);rw[hY] at c0;have e0:((bs Y).toList==[118,97,114])=false:=jb0 c0;rw[hY] at c1;have e1:((bs Y).toList==[123])=true:=jda c1;clear ih hR hY c0 c1;have h0:=QW.start hrs;obtain ⟨w0,hw0⟩:=jx (W.alloc (.cells #[.int .i64 0,.string ⟨#[]⟩,.int .i64 0,.int .i64 0,.slice none 0 0] 25));rw[hw0] at h0;have G0:=jj h0;have HW:=jj hw0;have HPL:=jj (show p<W.heap.size+1 by have:=hrs.st.lt;omega);clear h0 hw0;clear hrs;go_enter Tryz.func72,Tryz.ntmps72;go_wp2_with fail;rw[HW.out];clear HW;(with_reducible refine (HF.out _ G0.out.rs).mono ?_);rintro e wx ⟨rfl,rfl⟩;go_wp2_with fail;(with_reducible refine (HC.out _ G0.out.rs).mono ?_);rintro e w1 ⟨b1,hr1⟩
    cases R with
    | error a =>
      obtain rfl:e=jbk a:=hr1;have BX:=jj (G0.out.bt.trans b1);clear b1;unfold jbk;go_wp2;exact ⟨rfl,BX.out,rfl⟩
    | ok z =>
      obtain ⟨y,q⟩:=z;obtain ⟨⟨qA1,qm1,qd1,rfl,hv1⟩,hs1,hl1⟩:=hr1;dsimp only at hl1 hs1 hv1 ⊢;have V1:=jj (hv1.wide (B':=W.heap.size+1) G0.out.size);have G1:=jj (G0.out.next hs1 b1);clear hs1 b1 hv1 G0;obtain ⟨⟨-,x0,x1,x2,x3,x4⟩,g0,g1,g2,g3,g4⟩:=G1.out.box;go_wp2;exact bodyPost_ret (jag rfl _ _ W.heap.size _ _ _ _ _ rfl (ja3 G1.out.box _ _ _ _ _)) rfl (G1.out.fin (by omega) V1.out)
  rw[if_neg c1] at hR;by_cases c2:jbg T i=jdy
  · rw[if_pos c2] at hR;have HC:=jj (fun X hX=>qret (W:=X) ih hX hR);obtain ⟨Y,hY⟩:=jx (jbg T i);have HF:=jj (fun X (hX:QS X p A n c len T i)=>show Calls Tryz.prog 110 #[.pointer (some ⟨p,0,none⟩)] X fun e w'=>e=.returned (.string (bs Y))∧X=w' by rw[←hY];exact jfz hX);rw[hY] at c0;have e0:((bs Y).toList==[118,97,114])=false:=jb0 c0;rw[hY] at c1;have e1:((bs Y).toList==[123])=false:=jb0 c1;rw[hY] at c2;have e2:((bs Y).toList==[114,101,116,117,114,110])=true:=jda c2;clear ih hR hY c0 c1 c2;have h0:=QW.start hrs;obtain ⟨w0,hw0⟩:=jx (W.alloc (.cells #[.int .i64 0,.string ⟨#[]⟩,.int .i64 0,.int .i64 0,.slice none 0 0] 25));rw[hw0] at h0;have G0:=jj h0;have HW:=jj hw0;have HPL:=jj (show p<W.heap.size+1 by have:=hrs.st.lt;omega);clear h0 hw0;clear hrs;go_enter Tryz.func72,Tryz.ntmps72;go_wp2_with fail;rw[HW.out];clear HW;(with_reducible refine (HF.out _ G0.out.rs).mono ?_);rintro e wx ⟨rfl,rfl⟩;go_wp2_with fail;(with_reducible refine (HC.out _ G0.out.rs).mono ?_);rintro e w1 ⟨b1,hr1⟩
    cases R with
    | error a =>
      obtain rfl:e=jbk a:=hr1;have BX:=jj (G0.out.bt.trans b1);clear b1;unfold jbk;go_wp2;exact ⟨rfl,BX.out,rfl⟩
    | ok z =>
      obtain ⟨y,q⟩:=z;obtain ⟨⟨qA1,qm1,qd1,rfl,hv1⟩,hs1,hl1⟩:=hr1;dsimp only at hl1 hs1 hv1 ⊢;have V1:=jj (hv1.wide (B':=W.heap.size+1) G0.out.size);have G1:=jj (G0.out.next hs1 b1);clear hs1 b1 hv1 G0;obtain ⟨⟨-,x0,x1,x2,x3,x4⟩,g0,g1,g2,g3,g4⟩:=G1.out.box;go_wp2;exact bodyPost_ret (jag rfl _ _ W.heap.size _ _ _ _ _ rfl (ja3 G1.out.box _ _ _ _ _)) rfl (G1.out.fin (by omega) V1.out)
  rw[if_neg c2] at hR;by_cases c3:jbg T i=xIf
  · rw[if_pos c3] at hR;have HC:=jj (fun X hX=>qcond (W:=X) ih hX hR);obtain ⟨Y,hY⟩:=jx (jbg T i);have HF:=jj (fun X (hX:QS X p A n c len T i)=>show Calls Tryz.prog 110 #[.pointer (some ⟨p,0,none⟩)] X fun e w'=>e=.returned (.string (bs Y))∧X=w' by rw[←hY];exact jfz hX);rw[hY] at c0;have e0:((bs Y).toList==[118,97,114])=false:=jb0 c0;rw[hY] at c1;have e1:((bs Y).toList==[123])=false:=jb0 c1;rw[hY] at c2;have e2:((bs Y).toList==[114,101,116,117,114,110])=false:=jb0 c2;rw[hY] at c3;have e3:((bs Y).toList==[105,102])=true:=jda c3;clear ih hR hY c0 c1 c2 c3;have h0:=QW.start hrs;obtain ⟨w0,hw0⟩:=jx (W.alloc (.cells #[.int .i64 0,.string ⟨#[]⟩,.int .i64 0,.int .i64 0,.slice none 0 0] 25));rw[hw0] at h0;have G0:=jj h0;have HW:=jj hw0;have HPL:=jj (show p<W.heap.size+1 by have:=hrs.st.lt;omega);clear h0 hw0;clear hrs;go_enter Tryz.func72,Tryz.ntmps72;go_wp2_with fail;rw[HW.out];clear HW;(with_reducible refine (HF.out _ G0.out.rs).mono ?_);rintro e wx ⟨rfl,rfl⟩;go_wp2_with fail;(with_reducible refine (HC.out _ G0.out.rs).mono ?_);rintro e w1 ⟨b1,hr1⟩
    cases R with
    | error a =>
      obtain rfl:e=jbk a:=hr1;have BX:=jj (G0.out.bt.trans b1);clear b1;unfold jbk;go_wp2;exact ⟨rfl,BX.out,rfl⟩
    | ok z =>
      obtain ⟨y,q⟩:=z;obtain ⟨⟨qA1,qm1,qd1,rfl,hv1⟩,hs1,hl1⟩:=hr1;dsimp only at hl1 hs1 hv1 ⊢;have V1:=jj (hv1.wide (B':=W.heap.size+1) G0.out.size);have G1:=jj (G0.out.next hs1 b1);clear hs1 b1 hv1 G0;obtain ⟨⟨-,x0,x1,x2,x3,x4⟩,g0,g1,g2,g3,g4⟩:=G1.out.box;go_wp2;exact bodyPost_ret (jag rfl _ _ W.heap.size _ _ _ _ _ rfl (ja3 G1.out.box _ _ _ _ _)) rfl (G1.out.fin (by omega) V1.out)
  rw[if_neg c3] at hR;by_cases c4:jbg T i=jgx
  · rw[if_pos c4] at hR;have HC:=jj (fun X hX=>qloop (W:=X) ih hX hR);obtain ⟨Y,hY⟩:=jx (jbg T i);have HF:=jj (fun X (hX:QS X p A n c len T i)=>show Calls Tryz.prog 110 #[.pointer (some ⟨p,0,none⟩)] X fun e w'=>e=.returned (.string (bs Y))∧X=w' by rw[←hY];exact jfz hX);rw[hY] at c0;have e0:((bs Y).toList==[118,97,114])=false:=jb0 c0;rw[hY] at c1;have e1:((bs Y).toList==[123])=false:=jb0 c1;rw[hY] at c2;have e2:((bs Y).toList==[114,101,116,117,114,110])=false:=jb0 c2;rw[hY] at c3;have e3:((bs Y).toList==[105,102])=false:=jb0 c3;rw[hY] at c4;have e4:((bs Y).toList==[119,104,105,108,101])=true:=jda c4;clear ih hR hY c0 c1 c2 c3 c4;have h0:=QW.start hrs;obtain ⟨w0,hw0⟩:=jx (W.alloc (.cells #[.int .i64 0,.string ⟨#[]⟩,.int .i64 0,.int .i64 0,.slice none 0 0] 25));rw[hw0] at h0;have G0:=jj h0;have HW:=jj hw0;have HPL:=jj (show p<W.heap.size+1 by have:=hrs.st.lt;omega);clear h0 hw0;clear hrs;go_enter Tryz.func72,Tryz.ntmps72;go_wp2_with fail;rw[HW.out];clear HW;(with_reducible refine (HF.out _ G0.out.rs).mono ?_);rintro e wx ⟨rfl,rfl⟩;go_wp2_with fail;(with_reducible refine (HC.out _ G0.out.rs).mono ?_);rintro e w1 ⟨b1,hr1⟩
    cases R with
    | error a =>
      obtain rfl:e=jbk a:=hr1;have BX:=jj (G0.out.bt.trans b1);clear b1;unfold jbk;go_wp2;exact ⟨rfl,BX.out,rfl⟩
    | ok z =>
      obtain ⟨y,q⟩:=z;obtain ⟨⟨qA1,qm1,qd1,rfl,hv1⟩,hs1,hl1⟩:=hr1;dsimp only at hl1 hs1 hv1 ⊢;have V1:=jj (hv1.wide (B':=W.heap.size+1) G0.out.size);have G1:=jj (G0.out.next hs1 b1);clear hs1 b1 hv1 G0;obtain ⟨⟨-,x0,x1,x2,x3,x4⟩,g0,g1,g2,g3,g4⟩:=G1.out.box;go_wp2;exact bodyPost_ret (jag rfl _ _ W.heap.size _ _ _ _ _ rfl (ja3 G1.out.box _ _ _ _ _)) rfl (G1.out.fin (by omega) V1.out)
  rw[if_neg c4] at hR;obtain ⟨Y,hY⟩:=jx (jbg T i);have HF:=jj (fun X (hX:QS X p A n c len T i)=>show Calls Tryz.prog 110 #[.pointer (some ⟨p,0,none⟩)] X fun e w'=>e=.returned (.string (bs Y))∧X=w' by rw[←hY];exact jfz hX);have e0:((bs Y).toList==[118,97,114])=false:=jb0 (by rw[←hY];exact c0);have e1:((bs Y).toList==[123])=false:=jb0 (by rw[←hY];exact c1);have e2:((bs Y).toList==[114,101,116,117,114,110])=false:=jb0 (by rw[←hY];exact c2);have e3:((bs Y).toList==[105,102])=false:=jb0 (by rw[←hY];exact c3);have e4:((bs Y).toList==[119,104,105,108,101])=false:=jb0 (by rw[←hY];exact c4);clear hY c0 c1 c2 c3 c4;have dw:IntKind.i64.wrap ((i:Int)+1)=(i:Int)+1:=IntWalk.i64_in _ (by omega);by_cases h7:kT T i=7
  · rw[if_pos (Or.inl h7)] at hR;cases hR;have HC:=jj (fun X (hX:QS X p A n c len T i)=>qholder hX);obtain ⟨R,hR⟩:=jx (jfe T len i);rw[hR] at HC ⊢;have HK:=jj (fun X (hX:QS X p A n c len T i)=>show Calls Tryz.prog 123 #[.pointer (some ⟨p,0,none⟩)] X fun e w'=>e=.returned (.int .i64 7)∧X=w' by have:=ji5 hX;rw[h7] at this;exact this);clear ih hR h7;have h0:=QW.start hrs;obtain ⟨w0,hw0⟩:=jx (W.alloc (.cells #[.int .i64 0,.string ⟨#[]⟩,.int .i64 0,.int .i64 0,.slice none 0 0] 25));rw[hw0] at h0;have G0:=jj h0;have HW:=jj hw0;have HPL:=jj (show p<W.heap.size+1 by have:=hrs.st.lt;omega);clear h0 hw0;clear hrs;go_enter Tryz.func72,Tryz.ntmps72;go_wp2_with fail;rw[HW.out];clear HW;(with_reducible refine (HF.out _ G0.out.rs).mono ?_);rintro e wx ⟨rfl,rfl⟩;go_wp2_with fail;obtain ⟨j0,j1,j2⟩:=G0.out.rs.cells;(with_reducible refine (HK.out _ G0.out.rs).mono ?_);rintro e wx ⟨rfl,rfl⟩;go_wp2_with fail;clear j0 j1 j2;(with_reducible refine (HC.out _ G0.out.rs).mono ?_);rintro e w1 ⟨b1,hr1⟩
    cases R with
    | error a =>
      obtain rfl:e=jbk a:=hr1;have BX:=jj (G0.out.bt.trans b1);clear b1;unfold jbk;go_wp2;exact ⟨rfl,BX.out,rfl⟩
    | ok z =>
      obtain ⟨y,q⟩:=z;obtain ⟨⟨qA1,qm1,qd1,rfl,hv1⟩,hs1,hl1⟩:=hr1;dsimp only at hl1 hs1 hv1 ⊢;have V1:=jj (hv1.wide (B':=W.heap.size+1) G0.out.size);have G1:=jj (G0.out.next hs1 b1);clear hs1 b1 hv1 G0;obtain ⟨⟨-,x0,x1,x2,x3,x4⟩,g0,g1,g2,g3,g4⟩:=G1.out.box;go_wp2;exact bodyPost_ret (jag rfl _ _ W.heap.size _ _ _ _ _ rfl (ja3 G1.out.box _ _ _ _ _)) rfl (G1.out.fin (by omega) V1.out)
  by_cases h6:kT T i=6
  · by_cases hs:jbg T (i+1)=[59]
    · rw[if_pos (Or.inr ⟨h6,hs⟩)] at hR;cases hR;have HC:=jj (fun X (hX:QS X p A n c len T i)=>qholder hX);obtain ⟨R,hR⟩:=jx (jfe T len i);rw[hR] at HC ⊢;have h7:=h6;have HK:=jj (fun X (hX:QS X p A n c len T i)=>show Calls Tryz.prog 123 #[.pointer (some ⟨p,0,none⟩)] X fun e w'=>e=.returned (.int .i64 6)∧X=w' by have:=ji5 hX;rw[h7] at this;exact this);obtain ⟨Z,hZ⟩:=jx (jbg T (i+1));have HA:=jj (fun X (hX:QS X p A n c len T i)=>show Calls Tryz.prog 124 #[.pointer (some ⟨p,0,none⟩),.int .i64 ((i:Int)+1)] X fun e w'=>e=.returned (.string (bs Z))∧X=w' by have:=qfixedAt hX (i+1);rw[hZ,show (((i+1:Nat)):Int)=(i:Int)+1 by omega] at this;exact this);have z0:((bs Z).toList==[59])=true:=jda (by rw[←hZ];exact hs);clear hZ hs;clear ih hR h7 h6;have h0:=QW.start hrs;obtain ⟨w0,hw0⟩:=jx (W.alloc (.cells #[.int .i64 0,.string ⟨#[]⟩,.int .i64 0,.int .i64 0,.slice none 0 0] 25));rw[hw0] at h0;have G0:=jj h0;have HW:=jj hw0;have HPL:=jj (show p<W.heap.size+1 by have:=hrs.st.lt;omega);clear h0 hw0;clear hrs;go_enter Tryz.func72,Tryz.ntmps72;go_wp2_with fail;rw[HW.out];clear HW;(with_reducible refine (HF.out _ G0.out.rs).mono ?_);rintro e wx ⟨rfl,rfl⟩;go_wp2_with fail;obtain ⟨j0,j1,j2⟩:=G0.out.rs.cells;(with_reducible refine (HK.out _ G0.out.rs).mono ?_);rintro e wx ⟨rfl,rfl⟩;go_wp2_with fail;(with_reducible refine (HK.out _ G0.out.rs).mono ?_);rintro e wx ⟨rfl,rfl⟩;go_wp2_with fail;(with_reducible refine (HA.out _ G0.out.rs).mono ?_);rintro e wx ⟨rfl,rfl⟩;go_wp2_with fail;clear j0 j1 j2;(with_reducible refine (HC.out _ G0.out.rs).mono ?_);rintro e w1 ⟨b1,hr1⟩
      cases R with
      | error a =>
        obtain rfl:e=jbk a:=hr1;have BX:=jj (G0.out.bt.trans b1);clear b1;unfold jbk;go_wp2;exact ⟨rfl,BX.out,rfl⟩
      | ok z =>
        obtain ⟨y,q⟩:=z;obtain ⟨⟨qA1,qm1,qd1,rfl,hv1⟩,hs1,hl1⟩:=hr1;dsimp only at hl1 hs1 hv1 ⊢;have V1:=jj (hv1.wide (B':=W.heap.size+1) G0.out.size);have G1:=jj (G0.out.next hs1 b1);clear hs1 b1 hv1 G0;obtain ⟨⟨-,x0,x1,x2,x3,x4⟩,g0,g1,g2,g3,g4⟩:=G1.out.box;go_wp2;exact bodyPost_ret (jag rfl _ _ W.heap.size _ _ _ _ _ rfl (ja3 G1.out.box _ _ _ _ _)) rfl (G1.out.fin (by omega) V1.out)
    · rw[if_neg (fun h=>h.elim h7 fun h=>hs h.2)] at hR;have HC:=jj (fun X hX=>qsimple (W:=X) ih hX hR);have h7':=h7;clear h7;have h7:=h6;have HK:=jj (fun X (hX:QS X p A n c len T i)=>show Calls Tryz.prog 123 #[.pointer (some ⟨p,0,none⟩)] X fun e w'=>e=.returned (.int .i64 6)∧X=w' by have:=ji5 hX;rw[h7] at this;exact this);obtain ⟨Z,hZ⟩:=jx (jbg T (i+1));have HA:=jj (fun X (hX:QS X p A n c len T i)=>show Calls Tryz.prog 124 #[.pointer (some ⟨p,0,none⟩),.int .i64 ((i:Int)+1)] X fun e w'=>e=.returned (.string (bs Z))∧X=w' by have:=qfixedAt hX (i+1);rw[hZ,show (((i+1:Nat)):Int)=(i:Int)+1 by omega] at this;exact this);have z0:((bs Z).toList==[59])=false:=jb0 (by rw[←hZ];exact hs);clear hZ hs;clear ih hR h7 h7' h6;have h0:=QW.start hrs;obtain ⟨w0,hw0⟩:=jx (W.alloc (.cells #[.int .i64 0,.string ⟨#[]⟩,.int .i64 0,.int .i64 0,.slice none 0 0] 25));rw[hw0] at h0;have G0:=jj h0;have HW:=jj hw0;have HPL:=jj (show p<W.heap.size+1 by have:=hrs.st.lt;omega);clear h0 hw0;clear hrs;go_enter Tryz.func72,Tryz.ntmps72;go_wp2_with fail;rw[HW.out];clear HW;(with_reducible refine (HF.out _ G0.out.rs).mono ?_);rintro e wx ⟨rfl,rfl⟩;go_wp2_with fail;obtain ⟨j0,j1,j2⟩:=G0.out.rs.cells;(with_reducible refine (HK.out _ G0.out.rs).mono ?_);rintro e wx ⟨rfl,rfl⟩;go_wp2_with fail;(with_reducible refine (HK.out _ G0.out.rs).mono ?_);rintro e wx ⟨rfl,rfl⟩;go_wp2_with fail;(with_reducible refine (HA.out _ G0.out.rs).mono ?_);rintro e wx ⟨rfl,rfl⟩;go_wp2_with fail;clear j0 j1 j2;(with_reducible refine (HC.out _ G0.out.rs).mono ?_);rintro e w1 ⟨b1,hr1⟩
      cases R with
      | error a =>
        obtain rfl:e=jbk a:=hr1;have BX:=jj (G0.out.bt.trans b1);clear b1;unfold jbk;go_wp2;exact ⟨rfl,BX.out,rfl⟩
      | ok z =>
        obtain ⟨y,q⟩:=z;obtain ⟨⟨qA1,qm1,qd1,rfl,hv1⟩,hs1,hl1⟩:=hr1;dsimp only at hl1 hs1 hv1 ⊢;have V1:=jj (hv1.wide (B':=W.heap.size+1) G0.out.size);have G1:=jj (G0.out.next hs1 b1);clear hs1 b1 hv1 G0;obtain ⟨⟨-,x0,x1,x2,x3,x4⟩,g0,g1,g2,g3,g4⟩:=G1.out.box;go_wp2;exact bodyPost_ret (jag rfl _ _ W.heap.size _ _ _ _ _ rfl (ja3 G1.out.box _ _ _ _ _)) rfl (G1.out.fin (by omega) V1.out)
  · rw[if_neg (fun h=>h.elim h7 fun h=>h6 h.1)] at hR;have HC:=jj (fun X hX=>qsimple (W:=X) ih hX hR);have HK:=jj (fun X (hX:QS X p A n c len T i)=>ji5 hX);obtain ⟨K,hKe⟩:=jx (kT T i);rw[hKe] at HK h7 h6;have k7:(K==7)=false:=beq_eq_false_iff_ne.2 h7;have k6:(K==6)=false:=beq_eq_false_iff_ne.2 h6;clear ih hR h7 h6 hKe;have h0:=QW.start hrs;obtain ⟨w0,hw0⟩:=jx (W.alloc (.cells #[.int .i64 0,.string ⟨#[]⟩,.int .i64 0,.int .i64 0,.slice none 0 0] 25));rw[hw0] at h0;have G0:=jj h0;have HW:=jj hw0;have HPL:=jj (show p<W.heap.size+1 by have:=hrs.st.lt;omega);clear h0 hw0;clear hrs;go_enter Tryz.func72,Tryz.ntmps72;go_wp2_with fail;rw[HW.out];clear HW;(with_reducible refine (HF.out _ G0.out.rs).mono ?_);rintro e wx ⟨rfl,rfl⟩;go_wp2_with fail;obtain ⟨j0,j1,j2⟩:=G0.out.rs.cells;(with_reducible refine (HK.out _ G0.out.rs).mono ?_);rintro e wx ⟨rfl,rfl⟩;go_wp2_with fail;(with_reducible refine (HK.out _ G0.out.rs).mono ?_);rintro e wx ⟨rfl,rfl⟩;go_wp2_with fail;clear j0 j1 j2;(with_reducible refine (HC.out _ G0.out.rs).mono ?_);rintro e w1 ⟨b1,hr1⟩
    cases R with
    | error a =>
      obtain rfl:e=jbk a:=hr1;have BX:=jj (G0.out.bt.trans b1);clear b1;unfold jbk;go_wp2;exact ⟨rfl,BX.out,rfl⟩
    | ok z =>
      obtain ⟨y,q⟩:=z;obtain ⟨⟨qA1,qm1,qd1,rfl,hv1⟩,hs1,hl1⟩:=hr1;dsimp only at hl1 hs1 hv1 ⊢;have V1:=jj (hv1.wide (B':=W.heap.size+1) G0.out.size);have G1:=jj (G0.out.next hs1 b1);clear hs1 b1 hv1 G0;obtain ⟨⟨-,x0,x1,x2,x3,x4⟩,g0,g1,g2,g3,g4⟩:=G1.out.box;go_wp2;exact bodyPost_ret (jag rfl _ _ W.heap.size _ _ _ _ _ rfl (ja3 G1.out.box _ _ _ _ _)) rfl (G1.out.fin (by omega) V1.out)
end
end
section
open Go.RowKit
theorem rconst (x:List UInt8) (W:World) :
    Calls Tryz.prog 180 #[.string (bs x)] W fun e w'=>e=.returned (.bool (jdu x))∧W=w':=by
  (have e1:((bs x).toList==[116,114,117,101])=(x==[116,114,117,101]):=by rw[Lib.toList_data,jac]);(have e2:((bs x).toList==[102,97,108,115,101])=(x==[102,97,108,115,101]):=by rw[Lib.toList_data,jac]);(have e3:((bs x).toList==[110,117,108,108])=(x==[110,117,108,108]):=by rw[Lib.toList_data,jac]);(have e4:((bs x).toList==[116,104,105,115])=(x==[116,104,105,115]):=by rw[Lib.toList_data,jac]);have HQ:=jj (show ((x==[116,114,117,101])||(x==[102,97,108,115,101])||(x==[110,117,108,108])||(x==[116,104,105,115]))=jdu x from rfl);obtain ⟨b1,hb1⟩:∃b,(x==[116,114,117,101])=b:=⟨_,rfl⟩;obtain ⟨b2,hb2⟩:∃b,(x==[102,97,108,115,101])=b:=⟨_,rfl⟩;obtain ⟨b3,hb3⟩:∃b,(x==[110,117,108,108])=b:=⟨_,rfl⟩;obtain ⟨b4,hb4⟩:∃b,(x==[116,104,105,115])=b:=⟨_,rfl⟩;rw[hb1] at e1 HQ;rw[hb2] at e2 HQ;rw[hb3] at e3 HQ;rw[hb4] at e4 HQ;clear hb1 hb2 hb3 hb4;cases b1<;>cases b2<;>cases b3
  all_goals
    go_enter Tryz.func180,Tryz.ntmps180;go_wp2;go_ret;exact ⟨ja1 HQ.out,rfl⟩
def StrS (W:World) (B:Nat) (A:Option Addr) (n c:Nat) (l:List (List UInt8)):Prop:=n≤c∧c≤100∧l.length=n∧∀i x,l[i]?=some x→∃g,A=some ⟨g,0,none⟩∧B≤g∧W.cell? ⟨g,i,none⟩=some (.string (bs x))
theorem jkd (w:World) (cs:Array Value) (T:TypeId) (l:List (List UInt8)) (n:Nat) (hn:l.length=n) (hc:cs.toList=l.map fun x=>.string (bs x)) (h:n≤100) (B:Nat) (hB:B≤w.heap.size):StrS (w.alloc (.cells cs T)) B (some ⟨w.heap.size,0,none⟩) n n l:=by
  refine ⟨Nat.le_refl _,h,hn,fun i x hx=>⟨w.heap.size,rfl,hB,?_⟩⟩;(have:cs[i]?=some (.string (bs x)):=by rw[←Array.getElem?_toList,hc,List.getElem?_map,hx];rfl);rw[World.cell?_alloc_mark];simpa using this
theorem rops (k:Nat) (W:World) (B:Nat) (hB:B≤W.heap.size) :
    Calls Tryz.prog 75 #[.int .i64 (k:Int)] W fun e w'=>∃A n c,e=.returned (.slice A n c)∧StrS w' B A n c (jkl k)∧Below W.heap.size W w':=by
  by_cases h0:k=0
  · subst h0;go_enter Tryz.func75,Tryz.ntmps75;go_wp2;go_ret;exact ⟨_,1,1,rfl,jkd W #[.string ⟨#[124,124]⟩] _ [[124,124]] 1 rfl rfl (by decide) B hB,jak (Below.refl _ _) _⟩
  by_cases h1:k=1
  · subst h1;go_enter Tryz.func75,Tryz.ntmps75;go_wp2;go_ret;exact ⟨_,1,1,rfl,jkd W #[.string ⟨#[38,38]⟩] _ [[38,38]] 1 rfl rfl (by decide) B hB,jak (Below.refl _ _) _⟩
  by_cases h2:k=2
  · subst h2;go_enter Tryz.func75,Tryz.ntmps75;go_wp2;go_ret;exact ⟨_,2,2,rfl,jkd W #[.string ⟨#[61,61]⟩,.string ⟨#[33,61]⟩] _ [[61,61],[33,61]] 2 rfl rfl (by decide) B hB,jak (Below.refl _ _) _⟩
  by_cases h3:k=3
  · subst h3;go_enter Tryz.func75,Tryz.ntmps75;go_wp2;go_ret;exact ⟨_,2,2,rfl,jkd W #[.string ⟨#[60]⟩,.string ⟨#[62]⟩] _ [[60],[62]] 2 rfl rfl (by decide) B hB,jak (Below.refl _ _) _⟩
  by_cases h4:k=4
  · subst h4;go_enter Tryz.func75,Tryz.ntmps75;go_wp2;go_ret;exact ⟨_,2,2,rfl,jkd W #[.string ⟨#[43]⟩,.string ⟨#[45]⟩] _ [[43],[45]] 2 rfl rfl (by decide) B hB,jak (Below.refl _ _) _⟩
  have d0:((k:Int)==0)=false:=beq_eq_false_iff_ne.2 (by omega);have d1:((k:Int)==1)=false:=beq_eq_false_iff_ne.2 (by omega);have d2:((k:Int)==2)=false:=beq_eq_false_iff_ne.2 (by omega);have d3:((k:Int)==3)=false:=beq_eq_false_iff_ne.2 (by omega);have d4:((k:Int)==4)=false:=beq_eq_false_iff_ne.2 (by omega);have HO:=jj (show jkl k=[[42],[47],[37]] by unfold jkl;rw[if_neg h0,if_neg h1,if_neg h2,if_neg h3,if_neg h4]);clear h0 h1 h2 h3 h4;go_enter Tryz.func75,Tryz.ntmps75;go_wp2;go_ret;exact ⟨_,3,3,rfl,by rw[HO.out];exact jkd W #[.string ⟨#[42]⟩,.string ⟨#[47]⟩,.string ⟨#[37]⟩] _ [[42],[47],[37]] 3 rfl rfl (by decide) B hB,jak (Below.refl _ _) _⟩
end
section
open Go.RowKit
theorem ownQ_rows (w:World) (B:Nat) (q:Nat→Prop) (hB:B≤w.heap.size) (rs:List V5) (xs:List Nd) (k:Nat) (hr:rs.length=k) (hx:xs.length=k) (hk:k≤1000) (cs:Array Value) (hcs:cs.toList=jin rs) (H:Nat) (hH:H=w.heap.size)
    (h:∀(i:Nat) (r:V5) (x:Nd),rs[i]?=some r→xs[i]?=some x→NdV w q (.agg #[r.1,r.2.1,r.2.2.1,r.2.2.2.1,r.2.2.2.2]) x):OwnQ (w.alloc (.cells cs 25)) B q (.slice (some ⟨H,0,none⟩) k k) xs:=by
  subst hH hx;(have hsz:cs.size=xs.length*5:=by rw[←Array.length_toList,hcs,jhg,hr]);refine ⟨jin rs,rs.map fun r=>.agg #[r.1,r.2.1,r.2.2.1,r.2.2.2.1,r.2.2.2.2],⟨by rw[jhg,hr],Or.inr ⟨w.heap.size,xs.length,cs,rfl,hB,heap_alloc_new w _,Nat.le_refl _,by unfold maxLen;omega,hsz,by rw[hcs,List.take_of_length_le (by rw[jhg,hr];omega)]⟩⟩,by simp[hr],fun i u hu=>?_,fun i u y hu hy=>?_⟩
  · rw[List.getElem?_map] at hu
    cases hi:rs[i]? with
    | none=>rw[hi] at hu;cases hu
    | some r =>
      rw[hi] at hu;cases hu;exact ⟨_,_,_,_,_,rfl,cells5_get rs i r hi⟩
  · rw[List.getElem?_map] at hu
    cases hi:rs[i]? with
    | none=>rw[hi] at hu;cases hu
    | some r =>
      rw[hi] at hu;cases hu;refine (h i r y hi hy).map (fun p _ hp=>World.cell?_alloc_lt w _ p hp) fun g hg hlt=>⟨hg,fun e=>?_⟩;simp only[Value.ownBlock,Option.some.injEq] at e;omega
theorem jmw {w:World} {B:Nat} {q:Nat→Prop} (hB:B≤w.heap.size) {a0 a1 a2 a3 a4:Value} {x:Nd} (h:NdV w q (.agg #[a0,a1,a2,a3,a4]) x) (H:Nat) (hH:H=w.heap.size) :
    OwnQ (w.alloc (.cells #[a0,a1,a2,a3,a4] 25)) B q (.slice (some ⟨H,0,none⟩) 1 1) [x] :=
  ownQ_rows w B q hB [(a0,a1,a2,a3,a4)] [x] 1 rfl rfl (by decide) _ rfl H hH fun i r y hr hy=>by
    match i,hr,hy with
    | 0,hr,hy=>simp at hr hy;subst hr hy;exact h
theorem ownQ_2 {w:World} {B:Nat} {q:Nat→Prop} (hB:B≤w.heap.size) {a0 a1 a2 a3 a4 b0 b1 b2 b3 b4:Value} {x y:Nd} (h:NdV w q (.agg #[a0,a1,a2,a3,a4]) x) (h':NdV w q (.agg #[b0,b1,b2,b3,b4]) y) (H:Nat) (hH:H=w.heap.size) :
    OwnQ (w.alloc (.cells #[a0,a1,a2,a3,a4,b0,b1,b2,b3,b4] 25)) B q (.slice (some ⟨H,0,none⟩) 2 2) [x,y] :=
  ownQ_rows w B q hB [(a0,a1,a2,a3,a4),(b0,b1,b2,b3,b4)] [x,y] 2 rfl rfl (by decide) _ rfl H hH fun i r z hr hy=>by
    match i,hr,hy with
    | 0,hr,hy=>simp at hr hy;subst hr hy;exact h
    | 1,hr,hy=>simp at hr hy;subst hr hy;exact h'
theorem jdw {w:World} {b:Nat} {c0 c1 c2 c3 c4:Value} (h:FiveF w b c0 c1 c2 c3 c4) (u0 u1 u2 u3 u4:Value):FiveF (jex w b u0 u1 u2 u3 u4) b u0 u1 u2 u3 u4:=by
  have key:∀(W:World) (j k:Nat) (u:Value),(W.setCell ⟨b,j,none⟩ u).frozen? ⟨b,k,none⟩=W.frozen? ⟨b,k,none⟩:=fun W j k u=>World.frozen?_setCell _ _ _ _;refine ⟨ja3 h u0 u1 u2 u3 u4,?_,?_,?_,?_,?_⟩<;>(unfold jex;rw[key,key,key,key,key])
  · exact h.2.1
  · exact h.2.2.1
  · exact h.2.2.2.1
  · exact h.2.2.2.2.1
  · exact h.2.2.2.2.2
theorem NdV.put {w:World} {b:Nat} {B:Nat} {u0 u1 u2 u3 u4 v:Value} {r:Nd} (h:NdV w (fun g=>B≤g∧g≠b) v r):NdV (jex w b u0 u1 u2 u3 u4) (fun g=>B≤g∧g≠b) v r :=
  h.map (fun p hp _=>jd1 hp.2) fun g hg _=>hg
end
section
open Go.RowKit
theorem OwnQ.btq {W W':World} {p B:Nat} {q:Nat→Prop} {v:Value} {xs:List Nd} (h:OwnQ W B q v xs) (hb:Bt p W W') (hp:p<B) (hq:∀g,q g→g≠p):OwnQ W' B q v xs:=by
  obtain ⟨cs,vs,h1,h2,h3,h4⟩:=h;exact ⟨cs,vs,owns_bt h1 hb hp,h2,h3,fun i u x hu hx=>(h4 i u x hu hx).bt hb fun g hg=>hq g hg.1⟩
end
section
open Go.RowKit
section
variable {W:World} {p:Nat} {A:Option Addr} {n c:Nat} {len:Int} {T:List Tk} {i:Nat}
theorem fix_in (h:jbg T i≠[]) (hn:T.length=n):i<n:=by
  have h2:kT T i≠0:=fun e=>h (by unfold jbg;rw[if_neg (by omega)]);have:=jl2 h2;omega
theorem QW.left {w:World} {j:Nat} (h:QW p A n c len T w W j):jhn p n W=n - j:=h.rs.left
set_option maxHeartbeats 25600000 in
theorem qbinary {f:Nat} (ih:IHQ p A n c len T f) {lvl:Nat} (hl6:lvl≤6) (z:Int) (hz:z=(lvl:Int)+1) (hrs:QS W p A n c len T i) {R:Oc Nd} (hR:exprQ T len (jbc T len f) f lvl i=some R) :
    Calls Tryz.prog 118 #[.pointer (some ⟨p,0,none⟩),.int .i64 z] W (jgh p A n c len T W i R):=by
  have hn6:=hrs.n6;unfold exprQ at hR;by_cases h6:6≤lvl
  · rw[if_pos h6] at hR;(obtain rfl:lvl=6:=by omega);have HC:=jj (fun X hX=>ih _ _ _ hR X hX);have d0:decide (z > 6)=true:=decide_eq_true (by omega);clear hz hl6 h6 hR ih;have h0:=QW.start hrs;obtain ⟨w0,hw0⟩:=jx (W.alloc (.cells #[.int .i64 0,.string ⟨#[]⟩,.int .i64 0,.int .i64 0,.slice none 0 0] 25));rw[hw0] at h0;have G0:=jj h0;have HW:=jj hw0;have HPL:=jj (show p<W.heap.size+1 by have:=hrs.st.lt;omega);clear h0 hw0;clear hrs;go_enter Tryz.func118,Tryz.ntmps118;go_wp2_with fail;rw[HW.out];clear HW;(with_reducible refine (HC.out _ G0.out.rs).mono ?_);rintro e w1 ⟨b1,hr1⟩
    cases R with
    | error a =>
      obtain rfl:e=jbk a:=hr1;have BX:=jj (G0.out.bt.trans b1);clear b1;unfold jbk;go_wp2;exact ⟨rfl,BX.out,rfl⟩
    | ok z =>
      obtain ⟨y,q⟩:=z;obtain ⟨⟨qA1,qm1,qd1,rfl,hv1⟩,hs1,hl1⟩:=hr1;dsimp only at hl1 hs1 hv1 ⊢;have V1:=jj (hv1.wide (B':=W.heap.size+1) G0.out.size);have G1:=jj (G0.out.next hs1 b1);clear hs1 b1 hv1 G0;obtain ⟨⟨-,x0,x1,x2,x3,x4⟩,g0,g1,g2,g3,g4⟩:=G1.out.box;go_wp2;exact bodyPost_ret (jag rfl _ _ W.heap.size _ _ _ _ _ rfl (ja3 G1.out.box _ _ _ _ _)) rfl (G1.out.fin (by omega) V1.out)
  · rw[if_neg h6] at hR;have d0:decide (z > 6)=false:=decide_eq_false (by omega);have dw:IntKind.i64.wrap (z+1)=z+1:=IntWalk.i64_in _ (by omega);have HX:=jj (fun (X:World) (j:Nat) (R:Oc Nd) (hX:QS X p A n c len T j) (h:jbc T len f (.expr (lvl+1)) j=some R)=>ih _ _ _ h (by omega) (z+1) (by omega) X hX);have hln:T.length=n:=hrs.tks.1;have Hln:=jj hln;have Hz:=jj hz;have H:=jj hR;(have hl6':lvl<6:=by omega);clear hz hl6 h6 hR ih hln;have h0:=QW.start hrs;obtain ⟨w0,hw0⟩:=jx (W.alloc (.cells #[.int .i64 0,.string ⟨#[]⟩,.int .i64 0,.int .i64 0,.slice none 0 0] 25));rw[hw0] at h0;have G0:=jj h0;have HW:=jj hw0;have HPL:=jj (show p<W.heap.size+1 by have:=hrs.st.lt;omega);clear h0 hw0;clear hrs;go_enter Tryz.func118,Tryz.ntmps118;go_wp2_with fail;rw[HW.out];clear HW;(with_reducible refine (jf8 G0.out.rs).mono ?_);rintro e w1 ⟨rfl,hd1⟩;have G1:=jj (G0.out.drawn hd1);clear hd1 G0;go_wp2_with fail;obtain ⟨r1,hr1,hr2⟩:=jbt H.out;clear H;have H:=jj hr2;clear hr2;(with_reducible refine (HX.out _ _ _ G1.out.rs hr1).mono ?_);rintro e w2 ⟨b2,hr2⟩
    cases hq2:r1 with
    | error a =>
      rw[hq2] at hr2;obtain rfl:e=jbk a:=hr2;have hE:=H.out;rw[hq2] at hE;cases hE;have BX:=jj (G1.out.bt.trans b2);clear b2 hq2;unfold jbk;go_wp2;exact ⟨rfl,BX.out,rfl⟩
    | ok z2 =>
      obtain ⟨q0,i2⟩:=z2;rw[hq2] at hr2;obtain ⟨⟨qA2,qm2,qd2,rfl,hv2⟩,hs2,hl2⟩:=hr2;dsimp only at hl2 hs2 hv2;have hE:=H.out;rw[hq2] at hE;have H:=jj (show (binL T (jbc T len f) lvl (faP T len i) f q0 i2)=some R from hE);clear hE;have HQE:=jj hq2;clear hq2;(try dsimp only);have V1:=jj (hv2.wide (B':=W.heap.size+1) G1.out.size);have G2:=jj (G1.out.next hs2 b2);clear hs2 b2 G1 hv2;clear hr1 HQE;have HQ0:=jj (V1.out.map (fun _ _ _=>rfl) (fun g hg hlt=>(⟨hg,Nat.ne_of_lt hlt⟩:W.heap.size+1≤g∧g≠w2.heap.size)));have SZb:=jj G2.out.size;clear V1;have bl3:=jak (Below.refl _ w2) (.cells #[.int .i64 q0.kind,.string (bs q0.text),.int .i64 q0.at_,.int .i64 q0.en,.slice qA2 qm2 qd2] 25);go_wp2_with fail;have hF3:=jae w2 (.int .i64 q0.kind) (.string (bs q0.text)) (.int .i64 q0.at_) (.int .i64 q0.en) (.slice qA2 qm2 qd2) 25;have NE3:=jj (show w2.heap.size≠p by have:=G2.out.size;have:=G2.out.lt;omega);obtain ⟨w3,hw3⟩:=jx (w2.alloc (.cells #[.int .i64 q0.kind,.string (bs q0.text),.int .i64 q0.at_,.int .i64 q0.en,.slice qA2 qm2 qd2] 25));have SZ3:=jj (show w3.heap.size=w2.heap.size+1 by rw[←hw3];simp);rw[hw3] at bl3 hF3 ⊢;clear hw3;have G3:=jj (G2.out.keep bl3);have V2:=jj (HQ0.out.kept bl3);clear HQ0;have F3:=jj hF3;clear bl3 hF3 G2;(have hbk:p<w2.heap.size:=by have:=HPL.out;have:=SZb.out;omega);obtain ⟨bx,hbx⟩:=jx (w2.heap.size);rw[hbx] at F3 V2 NE3 hbk ⊢;have HNE:=NE3;have HBX:=jj (show W.heap.size+1≤bx by rw[←hbx];exact SZb.out);clear hbx SZb SZ3 NE3
      go_loopw [] (fun wr=>∃(q:Nd) (B:Option Addr) (m d:Nat) (j k':Nat),FiveF wr bx (.int .i64 q.kind) (.string (bs q.text)) (.int .i64 q.at_) (.int .i64 q.en) (.slice B m d)∧NdV wr (fun g=>W.heap.size+1≤g∧g≠bx) (.agg #[.int .i64 q.kind,.string (bs q.text),.int .i64 q.at_,.int .i64 q.en,.slice B m d]) q∧QW p A n c len T W wr j∧binL T (jbc T len f) lvl (faP T len i) k' q j=some R∧i≤j) (fun wr=>jhn p n wr)
      case atStart=>exact ⟨q0,_,_,_,i2,f,F3.out,V2.out,G3.out,H.out,by omega⟩
      case round =>
        clear G3 F3 V2 H;obtain ⟨q,B,m,d,j,k',hF,hV,hw,hsp,hij⟩:=hrel;obtain ⟨wo,hwo⟩:∃wo,wo=wr:=⟨wr,rfl⟩;subst hwo
        cases k' with
        | zero=>cases hsp
        | succ k' =>
        unfold binL at hsp;have Hleft:=jj hw.left;have G0:=jj hw;have F0:=jj hF;have V0:=jj hV;have F0sz:=jj hF.1.1;obtain ⟨Y,hY⟩:=jx (jbg T j);have HF:=jj (fun X (hX:QS X p A n c len T j)=>show Calls Tryz.prog 110 #[.pointer (some ⟨p,0,none⟩)] X fun e w'=>e=.returned (.string (bs Y))∧X=w' by rw[←hY];exact jfz hX);by_cases hc:jfc (jbg T j)=lvl+1
        · have hlt:j<n:=fix_in (fun e=>by rw[e] at hc;exact absurd hc (by show (0:Nat)≠_;omega)) Hln.out;rw[if_pos hc] at hsp;have H:=jj hsp;have HL:=jj (fun X=>show Calls Tryz.prog 175 #[.string (bs Y)] X fun e w'=>e=.returned (.int .i64 z)∧X=w' by have:=qlevel Y X;rw[←hY,hc,show (((lvl+1:Nat)):Int)=z by have:=Hz.out;omega] at this;rw[←hY];exact this);(have z0:(z==z)=true:=by simp);clear hF hV hw hsp hY hc;go_wp2_with fail;(with_reducible refine (HF.out _ G0.out.rs).mono ?_);rintro e wx ⟨rfl,rfl⟩;go_wp2_with fail;(with_reducible refine (HL.out _).mono ?_);rintro e wx ⟨rfl,rfl⟩;go_wp2_with fail;(with_reducible refine (qtake G0.out.rs hlt).mono ?_);rintro e w21 ⟨rfl,hs21,b21⟩;have HSR:=jj b21.size;have G21:=jj (G0.out.next hs21 b21);have V1:=jj (F0.out.bt b21 HNE.out);clear F0;have V2:=jj (V0.out.bt b21 (fun g hg=>by have:=HPL.out;omega));clear V0;clear hs21 b21 G0;go_wp2_with fail;obtain ⟨r1,hr1,hr2⟩:=jbt H.out;clear H;have H:=jj hr2;clear hr2;(with_reducible refine (HX.out _ _ _ G21.out.rs hr1).mono ?_);rintro e w22 ⟨b22,hr22⟩
          cases hq22:r1 with
          | error a =>
            rw[hq22] at hr22;obtain rfl:e=jbk a:=hr22;have hE:=H.out;rw[hq22] at hE;cases hE;have BX:=jj (G21.out.bt.trans b22);clear b22 hq22;unfold jbk;go_wp2;exact ⟨rfl,BX.out,rfl⟩
          | ok z22 =>
            obtain ⟨b,i22⟩:=z22;rw[hq22] at hr22;obtain ⟨⟨qA22,qm22,qd22,rfl,hv22⟩,hs22,hl22⟩:=hr22;dsimp only at hl22 hs22 hv22;have hE:=H.out;rw[hq22] at hE;have H:=jj (show (binL T (jbc T len f) lvl (faP T len i) k' (.mk 23 (tT T j) (faP T len i) (laP T i22) [q,b]) i22)=some R from hE);clear hE;have HQE:=jj hq22;clear hq22;(try dsimp only);have V3:=jj (hv22.wide (B':=wo.heap.size) HSR.out);have G22:=jj (G21.out.next hs22 b22);have V4:=jj (V1.out.bt b22 HNE.out);clear V1;have V5:=jj (V2.out.bt b22 (fun g hg=>by have:=HPL.out;omega));clear V2;clear hs22 b22 G21 hv22;clear hr1 HQE;have U0:=jj (V3.out.map (fun _ _ _=>rfl) (fun g hg _=>(⟨by have:=HBX.out;have:=F0sz.out;omega,by have:=F0sz.out;omega⟩:W.heap.size+1≤g∧g≠bx)));clear V3;have bl23:=jak (Below.refl _ w22) (.cells #[.int .i64 b.kind,.string (bs b.text),.int .i64 b.at_,.int .i64 b.en,.slice qA22 qm22 qd22] 25);obtain ⟨⟨-,y00,y01,y02,y03,y04⟩,-⟩:=V4.out.keep bl23;go_wp2_with fail;clear y00 y01 y02 y03 y04;have hF23:=jae w22 (.int .i64 b.kind) (.string (bs b.text)) (.int .i64 b.at_) (.int .i64 b.en) (.slice qA22 qm22 qd22) 25;have NE23:=jj (show w22.heap.size≠p by have:=G22.out.size;have:=G22.out.lt;omega);obtain ⟨w23,hw23⟩:=jx (w22.alloc (.cells #[.int .i64 b.kind,.string (bs b.text),.int .i64 b.at_,.int .i64 b.en,.slice qA22 qm22 qd22] 25));have SZ23:=jj (show w23.heap.size=w22.heap.size+1 by rw[←hw23];simp);rw[hw23] at bl23 hF23 ⊢;clear hw23;have G23:=jj (G22.out.keep bl23);have V6:=jj (V4.out.keep bl23);clear V4;have V7:=jj (V5.out.kept bl23);clear V5;have V8:=jj (U0.out.kept bl23);clear U0;have F23:=jj hF23;clear bl23 hF23 G22;have HOQ:=jj (ownQ_2 (w:=w23) (B:=W.heap.size+1) (q:=fun g=>W.heap.size+1≤g∧g≠bx) G23.out.size V7.out V8.out (w22.heap.size+1) SZ23.out.symm);have HSZK:=jj (show bx<w22.heap.size+1 by have:=V6.out.1.1;have:=SZ23.out;omega);(with_reducible refine (jhi (G23.out.more _).rs (by omega) 23 _ (bs (tT T j)) _ 2 2).mono ?_);rintro e w24 ⟨rfl,b24⟩;have G24:=jj ((G23.out.more _).keep b24);have HO2:=jj (HOQ.out.below b24);have hbb:=bgo (jak (Below.refl _ w23) (.cells #[.int .i64 q.kind,.string (bs q.text),.int .i64 q.at_,.int .i64 q.en,.slice B m d,.int .i64 b.kind,.string (bs b.text),.int .i64 b.at_,.int .i64 b.en,.slice qA22 qm22 qd22] 25)) b24;have FB:=jj (V6.out.keep hbb);clear b24 hbb G23 HOQ V6 V7 V8 F23;obtain ⟨⟨-,x0,x1,x2,x3,x4⟩,g0,g1,g2,g3,g4⟩:=FB.out;go_wp2;have Hl2:=jj (QW.left (G24.out.push (jaj (Below.refl (W.heap.size+1) w24) HBX.out) (W':=jex w24 bx (.int .i64 23) (.string (bs (tT T j))) (.int .i64 (jaq T len ⟨i,none⟩)) (.int .i64 (jao T ⟨i22,none⟩)) (.slice (some ⟨w22.heap.size+1,0,none⟩) 2 2))));go_roundw
            case rel =>
              refine ⟨.mk 23 (tT T j) (faP T len i) (laP T i22) [q,b],some ⟨w22.heap.size+1,0,none⟩,2,2,i22,k',jdw FB.out _ _ _ _ _,NdV.put (HO2.out.node _ (fun _ h=>h) (fun g h e=>⟨h,?_⟩) _ _ _ _),G24.out.push (jaj (Below.refl (W.heap.size+1) w24) HBX.out),H.out,by omega⟩;simp only[Value.ownBlock,Option.some.injEq] at e;have:=HSZK.out;omega
            case measure =>
              show jhn p n (jex w24 bx _ _ _ _ _)<jhn p n _;rw[Hl2.out,Hleft.out];have:=G24.out.rs.ib;omega
        · rw[if_neg hc] at hsp;cases hsp;obtain ⟨L,hL⟩:=jx (((jfc Y:Nat):Int));have HL:=jj (fun X=>show Calls Tryz.prog 175 #[.string (bs Y)] X fun e w'=>e=.returned (.int .i64 L)∧X=w' by rw[←hL];exact qlevel Y X);have z0:(L==z)=false:=beq_eq_false_iff_ne.2 (by rw[hY] at hc;have:=Hz.out;omega);clear hF hV hw hY hc hL;go_wp2_with fail;(with_reducible refine (HF.out _ G0.out.rs).mono ?_);rintro e wx ⟨rfl,rfl⟩;go_wp2_with fail;(with_reducible refine (HL.out _).mono ?_);rintro e wx ⟨rfl,rfl⟩;obtain ⟨⟨-,y0,y1,y2,y3,y4⟩,-⟩:=F0.out;obtain ⟨⟨-,x0,x1,x2,x3,x4⟩,g0,g1,g2,g3,g4⟩:=G0.out.box;go_wp2;exact bodyPost_ret (jag rfl _ _ W.heap.size _ _ _ _ _ rfl (ja3 G0.out.box _ _ _ _ _)) rfl (G0.out.fin hij (V0.out.map (fun _ _ _=>rfl) fun g hg _=>hg.1))
end
end
end Go.Proofs.YtonoklmobocikaaGreatDoor
