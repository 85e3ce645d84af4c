/- Lemmas. -/
import Derived.Test.YtonoklmobocikaaGreatDoorK59
set_option linter.unusedVariables false
set_option linter.unusedSimpArgs false
set_option maxRecDepth 20000
set_option maxHeartbeats 6400000
namespace Go.Proofs.YtonoklmobocikaaGreatDoor
section
open Go.RowKit
theorem rx_any {k a e:Int} {x:List UInt8} {l:List Nd} {B:Option Addr} {m d:Nat} (hx:x.length≤9223372036854775807) (hp:∀y∈l,jdd y∧∀z∈y.kids,jdd z) (W:World) (ok:Nat→Prop) (hv:NdS W ok B m d l) :
    Calls Tryz.prog 144 #[.agg #[.int .i64 k,.string (bs x),.int .i64 a,.int .i64 e,.slice B m d],.bool false] W fun e' w'=>e'=.returned (.bool (jat false (.mk k x a e l) .expr))∧Below W.heap.size W w':=by
  by_cases n15:k=15
  · subst n15;exact rx_15 hx hp W ok hv
  by_cases n16:k=16
  · subst n16;exact rx_16 hx hp W ok hv
  by_cases n17:k=17
  · subst n17;exact rx_17 hx hp W ok hv
  by_cases n18:k=18
  · subst n18;exact rx_18 hx hp W ok hv
  by_cases n19:k=19
  · subst n19;exact rx_19 hx hp W ok hv
  by_cases n20:k=20
  · subst n20;exact rx_20 hx hp W ok hv
  by_cases n21:k=21
  · subst n21;exact rx_21 hx hp W ok hv
  by_cases n22:k=22
  · subst n22;exact rx_22 hx hp W ok hv
  by_cases n23:k=23
  · subst n23;exact rx_23 hx hp W ok hv
  exact rx_no n15 n16 n17 n18 n19 n20 n21 n22 n23 hx hp W ok hv
theorem rs_any {k a e:Int} {x:List UInt8} {l:List Nd} {B:Option Addr} {m d:Nat} (hx:x.length≤9223372036854775807) (hp:∀y∈l,jdd y∧∀z∈y.kids,jdd z) (W:World) (ok:Nat→Prop) (hv:NdS W ok B m d l) :
    Calls Tryz.prog 146 #[.agg #[.int .i64 k,.string (bs x),.int .i64 a,.int .i64 e,.slice B m d],.bool false] W fun e' w'=>e'=.returned (.bool (jat false (.mk k x a e l) .stmt))∧Below W.heap.size W w':=by
  by_cases n6:k=6
  · subst n6;exact rs_6 hx hp W ok hv
  by_cases n9:k=9
  · subst n9;exact rs_9 hx hp W ok hv
  by_cases n10:k=10
  · subst n10;exact rs_10 hx hp W ok hv
  by_cases n11:k=11
  · subst n11;exact rs_11 hx hp W ok hv
  by_cases n12:k=12
  · subst n12;exact rs_12 hx hp W ok hv
  by_cases n13:k=13
  · subst n13;exact rs_13 hx hp W ok hv
  by_cases n14:k=14
  · subst n14;exact rs_14 hx hp W ok hv
  exact rs_no n6 n9 n10 n11 n12 n13 n14 hx hp W ok hv
theorem rd_7_any {k a e:Int} {x:List UInt8} {l:List Nd} {B:Option Addr} {m d:Nat} (hx:x.length≤9223372036854775807) (hp:∀y∈l,jdd y∧∀z∈y.kids,jdd z) (W:World) (ok:Nat→Prop) (hv:NdS W ok B m d l) :
    Calls Tryz.prog 147 #[.agg #[.int .i64 k,.string (bs x),.int .i64 a,.int .i64 e,.slice B m d],.int .i64 7,.bool false] W fun e' w'=>e'=.returned (.bool (jat false (.mk k x a e l) .decl))∧Below W.heap.size W w':=by
  by_cases n3:k=3
  · subst n3;exact rd_7_3 hx hp W ok hv
  by_cases n4:k=4
  · subst n4;exact rd_7_4 hx hp W ok hv
  by_cases n5:k=5
  · subst n5;exact rd_7_5 hx hp W ok hv
  by_cases n6:k=6
  · subst n6;exact rd_7_6 hx hp W ok hv
  exact rd_7_no n3 n4 n5 n6 hx hp W ok hv
theorem rd_8_any {k a e:Int} {x:List UInt8} {l:List Nd} {B:Option Addr} {m d:Nat} (hx:x.length≤9223372036854775807) (hp:∀y∈l,jdd y∧∀z∈y.kids,jdd z) (W:World) (ok:Nat→Prop) (hv:NdS W ok B m d l) :
    Calls Tryz.prog 147 #[.agg #[.int .i64 k,.string (bs x),.int .i64 a,.int .i64 e,.slice B m d],.int .i64 8,.bool false] W fun e' w'=>e'=.returned (.bool (jat false (.mk k x a e l) .member))∧Below W.heap.size W w':=by
  by_cases n3:k=3
  · subst n3;exact rd_8_3 hx hp W ok hv
  by_cases n4:k=4
  · subst n4;exact rd_8_4 hx hp W ok hv
  by_cases n5:k=5
  · subst n5;exact rd_8_5 hx hp W ok hv
  by_cases n6:k=6
  · subst n6;exact rd_8_6 hx hp W ok hv
  exact rd_8_no n3 n4 n5 n6 hx hp W ok hv
theorem rd_9_any {k a e:Int} {x:List UInt8} {l:List Nd} {B:Option Addr} {m d:Nat} (hx:x.length≤9223372036854775807) (hp:∀y∈l,jdd y∧∀z∈y.kids,jdd z) (W:World) (ok:Nat→Prop) (hv:NdS W ok B m d l) :
    Calls Tryz.prog 147 #[.agg #[.int .i64 k,.string (bs x),.int .i64 a,.int .i64 e,.slice B m d],.int .i64 9,.bool false] W fun e' w'=>e'=.returned (.bool (jat false (.mk k x a e l) .sig))∧Below W.heap.size W w':=by
  by_cases n3:k=3
  · subst n3;exact rd_9_3 hx hp W ok hv
  by_cases n4:k=4
  · subst n4;exact rd_9_4 hx hp W ok hv
  by_cases n5:k=5
  · subst n5;exact rd_9_5 hx hp W ok hv
  by_cases n6:k=6
  · subst n6;exact rd_9_6 hx hp W ok hv
  exact rd_9_no n3 n4 n5 n6 hx hp W ok hv
theorem fs_same (k a e:Int) (x:List UInt8) (l:List Nd) (w:Wh):jat false (.mk k x a e l) w=jat false (.mk k x a e l) w:=rfl
theorem fs_arg (k a e:Int) (x:List UInt8) (l:List Nd):jat false (.mk k x a e l) .arg=jat false (.mk k x a e l) .expr:=jnv _
theorem rf_expr {k:Int} {a e:Int} {x:List UInt8} {l:List Nd} {B:Option Addr} {m d:Nat} (n25:k≠25) (n26:k≠26) (hx:x.length≤9223372036854775807) (hp:∀y∈l,jdd y∧∀z∈y.kids,jdd z) (W:World) (ok:Nat→Prop) (hv:NdS W ok B m d l) :
    Calls Tryz.prog 92 #[.agg #[.int .i64 k,.string (bs x),.int .i64 a,.int .i64 e,.slice B m d],.int .i64 0,.bool false] W fun e' w'=>e'=.returned (.bool (jat false (.mk k x a e l) .expr))∧Below W.heap.size W w':=by
  obtain ⟨q,hq⟩:=jx (jat false (.mk k x a e l) .expr);rw[hq];rw[fs_same] at hq;have HQ:=jj hq;have hb1:=jak (Below.refl W.heap.size W) (.cells #[.int .i64 k,.string (bs x),.int .i64 a,.int .i64 e,.slice B m d] 25);have hF:=ja6 W (.int .i64 k) (.string (bs x)) (.int .i64 a) (.int .i64 e) (.slice B m d) 25;obtain ⟨w1,hw1⟩:=jx (W.alloc (.cells #[.int .i64 k,.string (bs x),.int .i64 a,.int .i64 e,.slice B m d] 25));rw[hw1] at hb1 hF;have hl:=hv.len;have hmd:=hl.2.1;have hdd:=hl.2.2;have HLe:=jj hl.1.symm;have HN:=jj (hv.kept hb1);have HB:=jj hb1;have HW:=jj hw1;have HF:=jj hF;have HP:=jj hp;have Hx:=jj hx;have C1:=jj (Below.refl w1.heap.size w1);obtain ⟨-,t0,t1,t2,t3,t4⟩:=hF;clear hv hl hq hw1 hb1 hp hx;have f25:(k==25)=false:=beq_eq_false_iff_ne.2 n25;have f26:(k==26)=false:=beq_eq_false_iff_ne.2 n26;go_enter Tryz.func92,Tryz.ntmps92;go_upto_region 1 with fail;rw[HW.out];obtain ⟨b0,hb0⟩:∃b,jat false (.mk k x a e l) .expr=b:=⟨_,rfl⟩;have HQ:=jj HQ.out;rw[hb0] at HQ;have HC0:=jj (rx_any (k:=k) (a:=a) (e:=e) Hx.out HP.out w1 _ (HN.out.kept C1.out));rw[hb0] at HC0;clear hb0;go_wp2_with fail;(with_reducible refine HC0.out.mono ?_);rintro e0 v0 ⟨rfl,hq0⟩;have C10:=jj (bgo C1.out hq0);clear hq0;go_wp2;go_ret;exact ⟨ja1 HQ.out,bgo HB.out C10.out⟩
theorem rf_arg {k:Int} {a e:Int} {x:List UInt8} {l:List Nd} {B:Option Addr} {m d:Nat} (n25:k≠25) (n26:k≠26) (hx:x.length≤9223372036854775807) (hp:∀y∈l,jdd y∧∀z∈y.kids,jdd z) (W:World) (ok:Nat→Prop) (hv:NdS W ok B m d l) :
    Calls Tryz.prog 92 #[.agg #[.int .i64 k,.string (bs x),.int .i64 a,.int .i64 e,.slice B m d],.int .i64 1,.bool false] W fun e' w'=>e'=.returned (.bool (jat false (.mk k x a e l) .arg))∧Below W.heap.size W w':=by
  obtain ⟨q,hq⟩:=jx (jat false (.mk k x a e l) .arg);rw[hq];rw[fs_arg] at hq;have HQ:=jj hq;have hb1:=jak (Below.refl W.heap.size W) (.cells #[.int .i64 k,.string (bs x),.int .i64 a,.int .i64 e,.slice B m d] 25);have hF:=ja6 W (.int .i64 k) (.string (bs x)) (.int .i64 a) (.int .i64 e) (.slice B m d) 25;obtain ⟨w1,hw1⟩:=jx (W.alloc (.cells #[.int .i64 k,.string (bs x),.int .i64 a,.int .i64 e,.slice B m d] 25));rw[hw1] at hb1 hF;have hl:=hv.len;have hmd:=hl.2.1;have hdd:=hl.2.2;have HLe:=jj hl.1.symm;have HN:=jj (hv.kept hb1);have HB:=jj hb1;have HW:=jj hw1;have HF:=jj hF;have HP:=jj hp;have Hx:=jj hx;have C1:=jj (Below.refl w1.heap.size w1);obtain ⟨-,t0,t1,t2,t3,t4⟩:=hF;clear hv hl hq hw1 hb1 hp hx;have f25:(k==25)=false:=beq_eq_false_iff_ne.2 n25;have f26:(k==26)=false:=beq_eq_false_iff_ne.2 n26;go_enter Tryz.func92,Tryz.ntmps92;go_upto_region 1 with fail;rw[HW.out];obtain ⟨b0,hb0⟩:∃b,jat false (.mk k x a e l) .expr=b:=⟨_,rfl⟩;have HQ:=jj HQ.out;rw[hb0] at HQ;have HC0:=jj (rx_any (k:=k) (a:=a) (e:=e) Hx.out HP.out w1 _ (HN.out.kept C1.out));rw[hb0] at HC0;clear hb0;go_wp2_with fail;(with_reducible refine HC0.out.mono ?_);rintro e0 v0 ⟨rfl,hq0⟩;have C10:=jj (bgo C1.out hq0);clear hq0;go_wp2;go_ret;exact ⟨ja1 HQ.out,bgo HB.out C10.out⟩
theorem rf_stmt {k:Int} {a e:Int} {x:List UInt8} {l:List Nd} {B:Option Addr} {m d:Nat} (n25:k≠25) (n26:k≠26) (hx:x.length≤9223372036854775807) (hp:∀y∈l,jdd y∧∀z∈y.kids,jdd z) (W:World) (ok:Nat→Prop) (hv:NdS W ok B m d l) :
    Calls Tryz.prog 92 #[.agg #[.int .i64 k,.string (bs x),.int .i64 a,.int .i64 e,.slice B m d],.int .i64 5,.bool false] W fun e' w'=>e'=.returned (.bool (jat false (.mk k x a e l) .stmt))∧Below W.heap.size W w':=by
  obtain ⟨q,hq⟩:=jx (jat false (.mk k x a e l) .stmt);rw[hq];rw[fs_same] at hq;have HQ:=jj hq;have hb1:=jak (Below.refl W.heap.size W) (.cells #[.int .i64 k,.string (bs x),.int .i64 a,.int .i64 e,.slice B m d] 25);have hF:=ja6 W (.int .i64 k) (.string (bs x)) (.int .i64 a) (.int .i64 e) (.slice B m d) 25;obtain ⟨w1,hw1⟩:=jx (W.alloc (.cells #[.int .i64 k,.string (bs x),.int .i64 a,.int .i64 e,.slice B m d] 25));rw[hw1] at hb1 hF;have hl:=hv.len;have hmd:=hl.2.1;have hdd:=hl.2.2;have HLe:=jj hl.1.symm;have HN:=jj (hv.kept hb1);have HB:=jj hb1;have HW:=jj hw1;have HF:=jj hF;have HP:=jj hp;have Hx:=jj hx;have C1:=jj (Below.refl w1.heap.size w1);obtain ⟨-,t0,t1,t2,t3,t4⟩:=hF;clear hv hl hq hw1 hb1 hp hx;have f25:(k==25)=false:=beq_eq_false_iff_ne.2 n25;have f26:(k==26)=false:=beq_eq_false_iff_ne.2 n26;go_enter Tryz.func92,Tryz.ntmps92;go_upto_region 1 with fail;rw[HW.out];obtain ⟨b0,hb0⟩:∃b,jat false (.mk k x a e l) .stmt=b:=⟨_,rfl⟩;have HQ:=jj HQ.out;rw[hb0] at HQ;have HC0:=jj (rs_any (k:=k) (a:=a) (e:=e) Hx.out HP.out w1 _ (HN.out.kept C1.out));rw[hb0] at HC0;clear hb0;go_wp2_with fail;(with_reducible refine HC0.out.mono ?_);rintro e0 v0 ⟨rfl,hq0⟩;have C10:=jj (bgo C1.out hq0);clear hq0;go_wp2;go_ret;exact ⟨ja1 HQ.out,bgo HB.out C10.out⟩
theorem rf_decl {k:Int} {a e:Int} {x:List UInt8} {l:List Nd} {B:Option Addr} {m d:Nat} (n25:k≠25) (n26:k≠26) (hx:x.length≤9223372036854775807) (hp:∀y∈l,jdd y∧∀z∈y.kids,jdd z) (W:World) (ok:Nat→Prop) (hv:NdS W ok B m d l) :
    Calls Tryz.prog 92 #[.agg #[.int .i64 k,.string (bs x),.int .i64 a,.int .i64 e,.slice B m d],.int .i64 7,.bool false] W fun e' w'=>e'=.returned (.bool (jat false (.mk k x a e l) .decl))∧Below W.heap.size W w':=by
  obtain ⟨q,hq⟩:=jx (jat false (.mk k x a e l) .decl);rw[hq];rw[fs_same] at hq;have HQ:=jj hq;have hb1:=jak (Below.refl W.heap.size W) (.cells #[.int .i64 k,.string (bs x),.int .i64 a,.int .i64 e,.slice B m d] 25);have hF:=ja6 W (.int .i64 k) (.string (bs x)) (.int .i64 a) (.int .i64 e) (.slice B m d) 25;obtain ⟨w1,hw1⟩:=jx (W.alloc (.cells #[.int .i64 k,.string (bs x),.int .i64 a,.int .i64 e,.slice B m d] 25));rw[hw1] at hb1 hF;have hl:=hv.len;have hmd:=hl.2.1;have hdd:=hl.2.2;have HLe:=jj hl.1.symm;have HN:=jj (hv.kept hb1);have HB:=jj hb1;have HW:=jj hw1;have HF:=jj hF;have HP:=jj hp;have Hx:=jj hx;have C1:=jj (Below.refl w1.heap.size w1);obtain ⟨-,t0,t1,t2,t3,t4⟩:=hF;clear hv hl hq hw1 hb1 hp hx;have f25:(k==25)=false:=beq_eq_false_iff_ne.2 n25;have f26:(k==26)=false:=beq_eq_false_iff_ne.2 n26;go_enter Tryz.func92,Tryz.ntmps92;go_upto_region 1 with fail;rw[HW.out];obtain ⟨b0,hb0⟩:∃b,jat false (.mk k x a e l) .decl=b:=⟨_,rfl⟩;have HQ:=jj HQ.out;rw[hb0] at HQ;have HC0:=jj (rd_7_any (k:=k) (a:=a) (e:=e) Hx.out HP.out w1 _ (HN.out.kept C1.out));rw[hb0] at HC0;clear hb0;go_wp2_with fail;(with_reducible refine HC0.out.mono ?_);rintro e0 v0 ⟨rfl,hq0⟩;have C10:=jj (bgo C1.out hq0);clear hq0;go_wp2;go_ret;exact ⟨ja1 HQ.out,bgo HB.out C10.out⟩
theorem rf_member {k:Int} {a e:Int} {x:List UInt8} {l:List Nd} {B:Option Addr} {m d:Nat} (n25:k≠25) (n26:k≠26) (hx:x.length≤9223372036854775807) (hp:∀y∈l,jdd y∧∀z∈y.kids,jdd z) (W:World) (ok:Nat→Prop) (hv:NdS W ok B m d l) :
    Calls Tryz.prog 92 #[.agg #[.int .i64 k,.string (bs x),.int .i64 a,.int .i64 e,.slice B m d],.int .i64 8,.bool false] W fun e' w'=>e'=.returned (.bool (jat false (.mk k x a e l) .member))∧Below W.heap.size W w':=by
  obtain ⟨q,hq⟩:=jx (jat false (.mk k x a e l) .member);rw[hq];rw[fs_same] at hq;have HQ:=jj hq;have hb1:=jak (Below.refl W.heap.size W) (.cells #[.int .i64 k,.string (bs x),.int .i64 a,.int .i64 e,.slice B m d] 25);have hF:=ja6 W (.int .i64 k) (.string (bs x)) (.int .i64 a) (.int .i64 e) (.slice B m d) 25;obtain ⟨w1,hw1⟩:=jx (W.alloc (.cells #[.int .i64 k,.string (bs x),.int .i64 a,.int .i64 e,.slice B m d] 25));rw[hw1] at hb1 hF;have hl:=hv.len;have hmd:=hl.2.1;have hdd:=hl.2.2;have HLe:=jj hl.1.symm;have HN:=jj (hv.kept hb1);have HB:=jj hb1;have HW:=jj hw1;have HF:=jj hF;have HP:=jj hp;have Hx:=jj hx;have C1:=jj (Below.refl w1.heap.size w1);obtain ⟨-,t0,t1,t2,t3,t4⟩:=hF;clear hv hl hq hw1 hb1 hp hx;have f25:(k==25)=false:=beq_eq_false_iff_ne.2 n25;have f26:(k==26)=false:=beq_eq_false_iff_ne.2 n26;go_enter Tryz.func92,Tryz.ntmps92;go_upto_region 1 with fail;rw[HW.out];obtain ⟨b0,hb0⟩:∃b,jat false (.mk k x a e l) .member=b:=⟨_,rfl⟩;have HQ:=jj HQ.out;rw[hb0] at HQ;have HC0:=jj (rd_8_any (k:=k) (a:=a) (e:=e) Hx.out HP.out w1 _ (HN.out.kept C1.out));rw[hb0] at HC0;clear hb0;go_wp2_with fail;(with_reducible refine HC0.out.mono ?_);rintro e0 v0 ⟨rfl,hq0⟩;have C10:=jj (bgo C1.out hq0);clear hq0;go_wp2;go_ret;exact ⟨ja1 HQ.out,bgo HB.out C10.out⟩
theorem rf_sig {k:Int} {a e:Int} {x:List UInt8} {l:List Nd} {B:Option Addr} {m d:Nat} (n25:k≠25) (n26:k≠26) (hx:x.length≤9223372036854775807) (hp:∀y∈l,jdd y∧∀z∈y.kids,jdd z) (W:World) (ok:Nat→Prop) (hv:NdS W ok B m d l) :
    Calls Tryz.prog 92 #[.agg #[.int .i64 k,.string (bs x),.int .i64 a,.int .i64 e,.slice B m d],.int .i64 9,.bool false] W fun e' w'=>e'=.returned (.bool (jat false (.mk k x a e l) .sig))∧Below W.heap.size W w':=by
  obtain ⟨q,hq⟩:=jx (jat false (.mk k x a e l) .sig);rw[hq];rw[fs_same] at hq;have HQ:=jj hq;have hb1:=jak (Below.refl W.heap.size W) (.cells #[.int .i64 k,.string (bs x),.int .i64 a,.int .i64 e,.slice B m d] 25);have hF:=ja6 W (.int .i64 k) (.string (bs x)) (.int .i64 a) (.int .i64 e) (.slice B m d) 25;obtain ⟨w1,hw1⟩:=jx (W.alloc (.cells #[.int .i64 k,.string (bs x),.int .i64 a,.int .i64 e,.slice B m d] 25));rw[hw1] at hb1 hF;have hl:=hv.len;have hmd:=hl.2.1;have hdd:=hl.2.2;have HLe:=jj hl.1.symm;have HN:=jj (hv.kept hb1);have HB:=jj hb1;have HW:=jj hw1;have HF:=jj hF;have HP:=jj hp;have Hx:=jj hx;have C1:=jj (Below.refl w1.heap.size w1);obtain ⟨-,t0,t1,t2,t3,t4⟩:=hF;clear hv hl hq hw1 hb1 hp hx;have f25:(k==25)=false:=beq_eq_false_iff_ne.2 n25;have f26:(k==26)=false:=beq_eq_false_iff_ne.2 n26;go_enter Tryz.func92,Tryz.ntmps92;go_upto_region 1 with fail;rw[HW.out];obtain ⟨b0,hb0⟩:∃b,jat false (.mk k x a e l) .sig=b:=⟨_,rfl⟩;have HQ:=jj HQ.out;rw[hb0] at HQ;have HC0:=jj (rd_9_any (k:=k) (a:=a) (e:=e) Hx.out HP.out w1 _ (HN.out.kept C1.out));rw[hb0] at HC0;clear hb0;go_wp2_with fail;(with_reducible refine HC0.out.mono ?_);rintro e0 v0 ⟨rfl,hq0⟩;have C10:=jj (bgo C1.out hq0);clear hq0;go_wp2;go_ret;exact ⟨ja1 HQ.out,bgo HB.out C10.out⟩
theorem fm_25 (a e:Int) (x:List UInt8) (l:List Nd) {w:Wh} {c:Int} (hc:codeW w=some c):jat false (.mk 25 x a e l) w=false:=by
  cases w<;>first | (simp[codeW] at hc;done) | (unfold jat;simp)
theorem rf_25 {a e:Int} {x:List UInt8} {l:List Nd} {B:Option Addr} {m d:Nat} {w:Wh} {c:Int} (hc:codeW w=some c) (hx:x.length≤9223372036854775807) (hp:∀y∈l,jdd y∧∀z∈y.kids,jdd z) (W:World) (ok:Nat→Prop) (hv:NdS W ok B m d l) :
    Calls Tryz.prog 92 #[.agg #[.int .i64 25,.string (bs x),.int .i64 a,.int .i64 e,.slice B m d],.int .i64 c,.bool false] W fun e' w'=>e'=.returned (.bool (jat false (.mk 25 x a e l) w))∧Below W.heap.size W w':=by
  obtain ⟨q,hq⟩:=jx (jat false (.mk 25 x a e l) w);rw[hq];rw[fm_25 _ _ _ _ hc] at hq;have HQ:=jj hq;have hb1:=jak (Below.refl W.heap.size W) (.cells #[.int .i64 25,.string (bs x),.int .i64 a,.int .i64 e,.slice B m d] 25);have hF:=ja6 W (.int .i64 25) (.string (bs x)) (.int .i64 a) (.int .i64 e) (.slice B m d) 25;obtain ⟨w1,hw1⟩:=jx (W.alloc (.cells #[.int .i64 25,.string (bs x),.int .i64 a,.int .i64 e,.slice B m d] 25));rw[hw1] at hb1 hF;have hl:=hv.len;have hmd:=hl.2.1;have hdd:=hl.2.2;have HLe:=jj hl.1.symm;have HN:=jj (hv.kept hb1);have HB:=jj hb1;have HW:=jj hw1;have HF:=jj hF;have HP:=jj hp;have Hx:=jj hx;have C1:=jj (Below.refl w1.heap.size w1);obtain ⟨-,t0,t1,t2,t3,t4⟩:=hF;clear hv hl hq hw1 hb1 hp hx;go_enter Tryz.func92,Tryz.ntmps92;go_upto_region 1 with fail;rw[HW.out];go_wp2;go_ret;exact ⟨ja1 HQ.out,bgo HB.out C1.out⟩
theorem fm_26 (a e:Int) (x:List UInt8) (l:List Nd) {w:Wh} {c:Int} (hc:codeW w=some c):jat false (.mk 26 x a e l) w=false:=by
  cases w<;>first | (simp[codeW] at hc;done) | (unfold jat;simp)
theorem rf_26 {a e:Int} {x:List UInt8} {l:List Nd} {B:Option Addr} {m d:Nat} {w:Wh} {c:Int} (hc:codeW w=some c) (hx:x.length≤9223372036854775807) (hp:∀y∈l,jdd y∧∀z∈y.kids,jdd z) (W:World) (ok:Nat→Prop) (hv:NdS W ok B m d l) :
    Calls Tryz.prog 92 #[.agg #[.int .i64 26,.string (bs x),.int .i64 a,.int .i64 e,.slice B m d],.int .i64 c,.bool false] W fun e' w'=>e'=.returned (.bool (jat false (.mk 26 x a e l) w))∧Below W.heap.size W w':=by
  obtain ⟨q,hq⟩:=jx (jat false (.mk 26 x a e l) w);rw[hq];rw[fm_26 _ _ _ _ hc] at hq;have HQ:=jj hq;have hb1:=jak (Below.refl W.heap.size W) (.cells #[.int .i64 26,.string (bs x),.int .i64 a,.int .i64 e,.slice B m d] 25);have hF:=ja6 W (.int .i64 26) (.string (bs x)) (.int .i64 a) (.int .i64 e) (.slice B m d) 25;obtain ⟨w1,hw1⟩:=jx (W.alloc (.cells #[.int .i64 26,.string (bs x),.int .i64 a,.int .i64 e,.slice B m d] 25));rw[hw1] at hb1 hF;have hl:=hv.len;have hmd:=hl.2.1;have hdd:=hl.2.2;have HLe:=jj hl.1.symm;have HN:=jj (hv.kept hb1);have HB:=jj hb1;have HW:=jj hw1;have HF:=jj hF;have HP:=jj hp;have Hx:=jj hx;have C1:=jj (Below.refl w1.heap.size w1);obtain ⟨-,t0,t1,t2,t3,t4⟩:=hF;clear hv hl hq hw1 hb1 hp hx;go_enter Tryz.func92,Tryz.ntmps92;go_upto_region 1 with fail;rw[HW.out];go_wp2;go_ret;exact ⟨ja1 HQ.out,bgo HB.out C1.out⟩
theorem fit_all:∀(f:Nat) (n:Nd),sizeN n≤f→TextsB n→jdd n:=by
  intro f
  induction f with
  | zero=>intro n h _;have:=jlf n;omega
  | succ f ih =>
    intro n hf ht w c hc W ok v hv
    cases hv with
    | mk k a e x B m d vs l hvs hlen hr =>
    have hT:NdS W ok B m d l:=⟨vs,hvs,hlen,hr⟩;rw[sizeN] at hf;have hx:x.length≤9223372036854775807:=ht (.mk k x a e l) (by rw[jca];exact List.mem_cons_self)
    have hin:∀y∈l,∀z∈jca y,z∈jc7 l:=by
      intro y hy z hz;clear hT hr hlen hvs hf ht ih
      induction l with
      | nil=>cases hy
      | cons n l ih =>
        rw[jc7];rcases List.mem_cons.1 hy with rfl | hy
        · exact List.mem_append_left _ hz
        · exact List.mem_append_right _ (ih hy)
    (have hself:∀y:Nd,y∈jca y:=fun y=>by cases y;rw[jca];exact List.mem_cons_self);have hsz:∀y∈jc7 l,sizeN y≤f:=fun y hy=>by have:=jj3 l y hy;omega
    have htx:∀y∈jc7 l,TextsB y:=fun y hy z hz=>by
      refine ht z ?_;rw[jca];refine List.mem_cons_of_mem _ ?_;exact jk3 hy hz
    have hp:∀y∈l,jdd y∧∀z∈y.kids,jdd z:=by
      intro y hy;have h1:=hin y hy y (hself y);refine ⟨ih y (hsz y h1) (htx y h1),fun z hz=>?_⟩;have h2:=hin y hy z (by cases y;rw[jca];exact List.mem_cons_of_mem _ (jk6 hz));exact ih z (hsz z h2) (htx z h2)
    by_cases n25:k=25
    · subst n25;exact rf_25 hc hx hp W ok hT
    by_cases n26:k=26
    · subst n26;exact rf_26 hc hx hp W ok hT
    cases w with
    | expr=>cases hc;exact rf_expr n25 n26 hx hp W ok hT
    | arg=>cases hc;exact rf_arg n25 n26 hx hp W ok hT
    | typ=>cases hc;exact rf_typ n25 n26 hx hp W ok hT
    | types=>cases hc;exact rf_types n25 n26 hx hp W ok hT
    | param=>cases hc;exact rf_param n25 n26 hx hp W ok hT
    | stmt=>cases hc;exact rf_stmt n25 n26 hx hp W ok hT
    | block=>cases hc;exact rf_block n25 n26 hx hp W ok hT
    | decl=>cases hc;exact rf_decl n25 n26 hx hp W ok hT
    | member=>cases hc;exact rf_member n25 n26 hx hp W ok hT
    | sig=>cases hc;exact rf_sig n25 n26 hx hp W ok hT
    | lst=>cases hc
end
section
open Go.RowKit
theorem rightF_is (k a e:Int) (x:List UInt8) (l:List Nd):jjv (.mk k x a e l)=(k==1&&(x==[]&&(decide (jde (.mk k x a e l)≤12)&&jcs false (l.dropWhile jk9) .decl))):=by
  show (k==1&&x==[]&&jcs false (l.dropWhile jk9) .decl&&decide (jde (.mk k x a e l)≤12))=_;simp only[Bool.and_assoc];rw[Bool.and_comm (jcs _ _ _)]
theorem dw_at {l:List Nd} {i:Nat} (h:(l.take i).all jk9=true) (hi:∀y,l[i]?=some y→jk9 y=false):l.dropWhile jk9=l.drop i:=by
  induction l generalizing i with
  | nil=>simp
  | cons n l ih =>
    cases i with
    | zero=>rw[List.dropWhile_cons,if_neg (by rw[hi n rfl];simp)];try rfl
    | succ i =>
      rw[List.take_succ_cons,List.all_cons,Bool.and_eq_true] at h;rw[List.dropWhile_cons,if_pos h.1,List.drop_succ_cons];exact ih h.2 fun y hy=>hi y (by rw[List.getElem?_cons_succ];exact hy)
theorem take_imp {l:List Nd} {i:Nat} {y:Nd} (h:(l.take i).all jk9=true) (hy:l[i]?=some y) (hp:jk9 y=true):(l.take (i+1)).all jk9=true:=by
  obtain ⟨h1,e⟩:=List.getElem?_eq_some_iff.1 hy;rw[List.take_succ_eq_append_getElem h1,e,List.all_append,h];simp[hp]
theorem rRight {n:Nd} (hs:sizeN n≤1000000000) (ht:TextsB n) (W:World) (v:Value) (hv:NdV W (fun _=>True) v n) :
    Calls Tryz.prog 17 #[v] W fun e' w'=>e'=.returned (.bool (jjv n))∧Below W.heap.size W w':=by
  have hD:=fun W' v' (h:NdV W' (fun _=>True) v' n)=>rdepth _ n W' v' (Nat.le_refl _) hs h;have hfit:=fun y (hy:y∈jca n)=>fit_all _ y (Nat.le_refl _) (fun z hz=>ht z (jky n y z hy hz));have hdp:jde n≤1000000000:=Nat.le_trans (depth_size n) hs
  cases hv with
  | mk k a e x B m d vs l hvs hlen hr =>
  have hT:NdS W (fun _=>True) B m d l:=⟨vs,hvs,hlen,hr⟩;have hp:∀y∈l,jdd y:=fun y hy=>hfit y (by rw[jca];exact List.mem_cons_of_mem _ (jk6 hy));obtain ⟨q,hq⟩:=jx (jjv (.mk k x a e l));rw[hq];rw[rightF_is] at hq;have HQ:=jj hq;have hb1:=jak (Below.refl W.heap.size W) (.cells #[.int .i64 k,.string (bs x),.int .i64 a,.int .i64 e,.slice B m d] 25);have hF:=ja6 W (.int .i64 k) (.string (bs x)) (.int .i64 a) (.int .i64 e) (.slice B m d) 25;obtain ⟨w1,hw1⟩:=jx (W.alloc (.cells #[.int .i64 k,.string (bs x),.int .i64 a,.int .i64 e,.slice B m d] 25));rw[hw1] at hb1 hF;have hmd:=hvs.1;have hdd:=hvs.2.1;obtain ⟨D,hDp⟩:=jx (jde (.mk k x a e l));have HV:=jj (hT.node k a e x);have HDC:=jj (hD w1 _ ((hT.node k a e x).kept hb1));rw[hDp] at HDC HQ hdp;have HN:=jj (hT.kept hb1);have HB:=jj hb1;have HW:=jj hw1;have HLe:=jj hlen;have HF:=jj hF;have HP:=jj hp;have HTn:=jj (fun (s:ByteArray) (b:Bool) (hb:jb8 1 s.data.toList=b) (W:World)=>je2 s b hb W);obtain ⟨-,t0,t1,t2,t3,t4⟩:=hF;clear hvs hlen hr hT hq hw1 hb1 hp hfit hD hDp hs ht;by_cases hk:k=1
  case neg =>
    have u1:(k==1)=false:=beq_eq_false_iff_ne.2 hk;(have p1:(k != 1)=true:=by rw[bne,u1];rfl);have Hn:=jj (show false=q by rw[←HQ.out,u1];rfl);clear hk;go_enter Tryz.func17,Tryz.ntmps17;go_upto_region 1 with fail;rw[HW.out];go_wp2;go_ret;exact ⟨ja1 Hn.out,HB.out⟩
  have u1:(k==1)=true:=beq_iff_eq.2 hk;(have p1:(k != 1)=false:=by rw[bne,u1];rfl);by_cases hx:x=[]
  case neg =>
    (have u2:((bs x).toList==[])=false:=by rw[Lib.toList_data,jac];exact beq_eq_false_iff_ne.2 hx);have Hn:=jj (show false=q by rw[←HQ.out,u1,beq_eq_false_iff_ne.2 hx];rfl);clear hk hx;go_enter Tryz.func17,Tryz.ntmps17;go_upto_region 1 with fail;rw[HW.out];go_wp2;go_ret;exact ⟨ja1 Hn.out,HB.out⟩
  (have u2:((bs x).toList==[])=true:=by rw[Lib.toList_data,jac,hx];rfl);have HQ:=jj (show (decide (D≤12)&&jcs false (l.dropWhile jk9) .decl)=q by rw[←HQ.out,u1,hx];rfl);clear hk hx;go_enter Tryz.func17,Tryz.ntmps17;go_upto_region 1 with fail;rw[HW.out];go_wp2_with fail;(with_reducible refine HDC.out.mono ?_);rintro e2 w2 ⟨rfl,hb2⟩;have C2:=jj hb2;have F2:=HF.out.keep hb2;clear hb2 t0 t1 t2 t3 t4;by_cases hD12:D≤12
  case neg =>
    (have hDi:(D:Int) > 12:=by omega);have Hn:=jj (show false=q by rw[←HQ.out,decide_eq_false hD12];rfl);clear hD12;go_wp2;go_ret;exact ⟨ja1 Hn.out,bgo HB.out C2.out⟩
  (have hDi:¬(D:Int) > 12:=by omega);have HQ:=jj (show jcs false (l.dropWhile jk9) .decl=q by rw[←HQ.out,decide_eq_true hD12];rfl);clear hD12;have F2:=jj F2;go_wp2_with fail
  go_loopw [3] (fun y wr=>∃i:Nat,i≤m∧y=.int .i64 (i:Int)∧(l.take i).all jk9=true∧Below w2.heap.size w2 wr) (fun y _=>m - (intOf y).toNat)
  case atStart=>exact ⟨0,Nat.zero_le _,rfl,rfl,Below.refl _ _⟩
  case round =>
    obtain ⟨i,hi,rfl,hm,hb⟩:=hrel;obtain ⟨w3,hw3⟩:∃w3,w3=wr:=⟨wr,rfl⟩;subst hw3;have B3:=jj (bgo C2.out hb);obtain ⟨-,t0,t1,t2,t3,t4⟩:=F2.out.keep hb;have H23:=jj hb;clear hb;by_cases hlt:i<m
    · (have hii:(i:Int)<(m:Int):=by omega);obtain ⟨g,o,y,yA,ym,yd,rfl,hy,ry,x0,x1,x2,x3,x4⟩:=(HN.out.kept B3.out).at_ hlt;by_cases hy2:y.kind=2
      case neg =>
        have v1:(y.kind==2)=false:=beq_eq_false_iff_ne.2 hy2
        have hno:∀z,l[i]?=some z→jk9 z=false:=fun z hz=>by
          (obtain rfl:y=z:=by rw[hy] at hz;exact Option.some.inj hz);unfold jk9;rw[v1];try rfl
        have BW:=jj B3.out;clear hy2 hy ry;have HQ:=jj (show jcs false (l.drop i) .decl=q by rw[←HQ.out,dw_at hm hno]);have hP:∀y∈l.drop i,jdd y:=fun y hy=>HP.out y (List.mem_of_mem_drop hy);have hN:NdS w3 (fun _=>True) (some ⟨g,o,none⟩) m d l:=HN.out.kept B3.out;(have hd0:¬d - i=0:=by omega);(have hd1:¬d=i:=by omega);have HE:=jj (jlo (hN.drop_ (i:=i) (by omega)) hP .decl 7 rfl);rw[HQ.out] at HE;clear hN hP hm hno;go_wp2_with fail;(with_reducible refine HE.out.mono ?_);rintro e9 w9 ⟨rfl,hb9⟩;have B9:=jj (bgo BW.out hb9);clear hb9;go_wp2;go_ret;exact ⟨rfl,bgo HB.out B9.out⟩
      have v1:(y.kind==2)=true:=beq_iff_eq.2 hy2;have hyl:=ry.len;by_cases hym:ym=0
      case neg =>
        have v2:((ym:Int)==0)=false:=beq_eq_false_iff_ne.2 (by omega)
        have hno:∀z,l[i]?=some z→jk9 z=false:=fun z hz=>by
          (obtain rfl:y=z:=by rw[hy] at hz;exact Option.some.inj hz);unfold jk9;rw[v1,show y.kids.isEmpty=false by cases hk:y.kids with | nil=>(have:=hyl.1;rw[hk] at this;simp at this;omega) | cons=>rfl];try rfl
        have BW:=jj B3.out;clear hy2 hy ry hyl hym;have HQ:=jj (show jcs false (l.drop i) .decl=q by rw[←HQ.out,dw_at hm hno]);have hP:∀y∈l.drop i,jdd y:=fun y hy=>HP.out y (List.mem_of_mem_drop hy);have hN:NdS w3 (fun _=>True) (some ⟨g,o,none⟩) m d l:=HN.out.kept B3.out;(have hd0:¬d - i=0:=by omega);(have hd1:¬d=i:=by omega);have HE:=jj (jlo (hN.drop_ (i:=i) (by omega)) hP .decl 7 rfl);rw[HQ.out] at HE;clear hN hP hm hno;go_wp2_with fail;(with_reducible refine HE.out.mono ?_);rintro e9 w9 ⟨rfl,hb9⟩;have B9:=jj (bgo BW.out hb9);clear hb9;go_wp2;go_ret;exact ⟨rfl,bgo HB.out B9.out⟩
      have v2:((ym:Int)==0)=true:=beq_iff_eq.2 (by omega)
      have hke:y.kids.isEmpty=true:=by
        have:=hyl.1
        cases hk:y.kids with
        | nil=>rfl
        | cons=>rw[hk] at this;simp at this;omega
      obtain ⟨b,hbn⟩:=jx (jb8 1 y.text);have HC:=jj (HTn.out (bs y.text) b (by rw[jac];exact hbn) w3)
      cases b with
      | false =>
        have hno:∀z,l[i]?=some z→jk9 z=false:=fun z hz=>by
          (obtain rfl:y=z:=by rw[hy] at hz;exact Option.some.inj hz);unfold jk9;rw[hke,show jcn y.text=false from hbn];simp
        have Hno:=jj hno;have Hm:=jj hm;clear hy2 hy ry hyl hym hke hbn hno hm;go_wp2_with fail;(with_reducible refine HC.out.mono ?_);rintro e4 w4 ⟨rfl,hb4⟩;have BW:=jj (bgo B3.out hb4);have B3:=jj (bgo B3.out hb4);obtain ⟨-,s0,s1,s2,s3,s4⟩:=HF.out.keep BW.out;have hno:=Hno.out;have hm:=Hm.out;clear hb4 x0 x1 x2 x3 x4 t0 t1 t2 t3 t4;have HQ:=jj (show jcs false (l.drop i) .decl=q by rw[←HQ.out,dw_at hm hno]);have hP:∀y∈l.drop i,jdd y:=fun y hy=>HP.out y (List.mem_of_mem_drop hy);have hN:NdS w4 (fun _=>True) (some ⟨g,o,none⟩) m d l:=HN.out.kept B3.out;(have hd0:¬d - i=0:=by omega);(have hd1:¬d=i:=by omega);have HE:=jj (jlo (hN.drop_ (i:=i) (by omega)) hP .decl 7 rfl);rw[HQ.out] at HE;clear hN hP hm hno;go_wp2_with fail;(with_reducible refine HE.out.mono ?_);rintro e9 w9 ⟨rfl,hb9⟩;have B9:=jj (bgo BW.out hb9);clear hb9;go_wp2;go_ret;exact ⟨rfl,bgo HB.out B9.out⟩
      | true =>
        have Hm:=jj (take_imp hm hy (by unfold jk9;rw[v1,hke,show jcn y.text=true from hbn];rfl));clear hy2 hy ry hyl hym hke hbn hm;go_wp2_with fail;(with_reducible refine HC.out.mono ?_);rintro e4 w4 ⟨rfl,hb4⟩;have B4:=jj (bgo H23.out hb4);clear hb4 x0 x1 x2 x3 x4 t0 t1 t2 t3 t4;go_wp2;go_roundw
        case rel=>exact ⟨i+1,by omega,by go_num,Hm.out,B4.out⟩
        case measure=>simp[intOf];omega
    · have hii:¬(i:Int)<(m:Int):=by omega
      have hno:∀z,l[i]?=some z→jk9 z=false:=fun z hz=>by
        rw[List.getElem?_eq_none (by rw[HLe.out];omega)] at hz;cases hz
      have BW:=jj B3.out;have HQ:=jj (show jcs false (l.drop i) .decl=q by rw[←HQ.out,dw_at hm hno]);have hP:∀y∈l.drop i,jdd y:=fun y hy=>HP.out y (List.mem_of_mem_drop hy);have hN:=HN.out.kept B3.out;by_cases hd0:d - i=0
      · (have hmi:m - i=0:=by omega);(have hdi:d=i:=by omega);have hl0:l.drop i=[]:=List.drop_of_length_le (by rw[HLe.out];omega);have HE:=jj (jlo (l:=l.drop i) (A:=B) (m:=0) (d:=0) (by rw[hl0];exact NdS.nil0 (ok:=fun _=>True) (W:=w3) (by decide)) hP .decl 7 rfl);rw[HQ.out] at HE;clear hN hP hm hno;go_wp2_with fail;(with_reducible refine HE.out.mono ?_);rintro e9 w9 ⟨rfl,hb9⟩;have B9:=jj (bgo BW.out hb9);clear hb9;go_wp2;go_ret;exact ⟨rfl,bgo HB.out B9.out⟩
      · cases B with
        | none =>
          have hm0:m=0:=by
            rcases Nat.eq_zero_or_pos m with h | h
            · exact h
            · obtain ⟨g,o,e⟩:=hN.addr h;cases e
          (have hi0:i=0:=by omega);subst hi0;have HE:=jj (jlo (hN) (fun y hy=>HP.out y hy) .decl 7 rfl);rw[show jcs false l .decl=q from by rw[←HQ.out];rfl,hm0] at HE;clear hN hP hm hno;go_wp2_with fail;(with_reducible refine HE.out.mono ?_);rintro e9 w9 ⟨rfl,hb9⟩;have B9:=jj (bgo BW.out hb9);clear hb9;go_wp2;go_ret;exact ⟨rfl,bgo HB.out B9.out⟩
        | some ad =>
          obtain ⟨g,o,p⟩:=ad
          have HE:=jj (jlo (l:=l.drop i) (W:=w3) (ok:=fun _=>True) (A:=some ((⟨g,o,p⟩:Addr).add (i*5))) (m:=m - i) (d:=d - i) (by
            by_cases hmi:m - i=0
            · rw[hmi,show l.drop i=[] from List.drop_of_length_le (by rw[HLe.out];omega)];exact NdS.nil0 (by omega)
            · obtain ⟨g',o',e⟩:=hN.addr (by omega);cases e;rw[show (⟨g,o,none⟩:Addr).add (i*5)=⟨g,o+i*5,none⟩ from by unfold Addr.add;split<;>simp_all]
              exact hN.drop_ (i:=i) (by omega)) hP .decl 7 rfl)
          rw[HQ.out] at HE;clear hN hP hm hno;go_wp2_with fail;(with_reducible refine HE.out.mono ?_);rintro e9 w9 ⟨rfl,hb9⟩;have B9:=jj (bgo BW.out hb9);clear hb9;go_wp2;go_ret;exact ⟨rfl,bgo HB.out B9.out⟩
end
end Go.Proofs.YtonoklmobocikaaGreatDoor
