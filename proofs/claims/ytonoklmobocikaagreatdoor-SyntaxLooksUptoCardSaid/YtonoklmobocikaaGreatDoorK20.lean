/- Lemmas. -/
import Derived.Laws.OwnMore
import Derived.Test.YtonoklmobocikaaGreatDoorK19
set_option linter.unusedVariables false
set_option linter.unusedSimpArgs false
set_option maxRecDepth 20000
set_option maxHeartbeats 6400000
namespace Go.Proofs.YtonoklmobocikaaGreatDoor
section
open Go.RowKit
theorem jjd {a b:Int} (h:¬a=b):(a != b)=true:=by rw[bne_iff_ne];exact h
theorem jje {a b:Int} (h:a=b):(a != b)=false:=by rw[h];simp
theorem str_ne2 {a b:List UInt8} (h:¬a=b):((bs a).toList==(bs b).toList)=false:=by
  rw[Lib.toList_data,Lib.toList_data,jac,jac];exact beq_eq_false_iff_ne.2 h
theorem str_eq2 {a b:List UInt8} (h:a=b):((bs a).toList==(bs b).toList)=true:=by rw[h];simp
theorem rSame:∀(f:Nat) (n n':Nd) (W:World) (ok ok':Nat→Prop) (v v':Value),sizeN n≤f→NdV W ok v n→NdV W ok' v' n' →
    Calls Tryz.prog 19 #[v,v'] W fun e w'=>e=.returned (.bool (eqN false n n'))∧Below W.heap.size W w':=by
  intro f
  induction f with
  | zero=>intro n n' W ok ok' v v' h;cases n;rw[sizeN] at h;omega
  | succ f ih =>
    intro n n' W ok ok' v v' hf hv hv';obtain ⟨q,hq⟩:=jx (eqN false n n');rw[hq]
    cases hv with
    | mk k a e x B m d vs l hvs hlen hr =>
    cases hv' with
    | mk k' a' e' x' B' m' d' vs' l' hvs' hlen' hr' =>
    rw[eqN] at hq;rw[sizeN] at hf;have hmd:=hvs.1;have hdd:=hvs.2.1;have hmd':=hvs'.1;have hdd':=hvs'.2.1;have Hvs:=jj hvs;have Hvs':=jj hvs';have Hlen:=jj hlen;have Hlen':=jj hlen';have Hr:=jj hr;have Hr':=jj hr';have IH:=jj ih;have HQ:=jj hq;have hB2:=jak (jak (Below.refl _ W) (.cells #[.int .i64 k,.string (bs x),.int .i64 a,.int .i64 e,.slice B m d] 25)) (.cells #[.int .i64 k',.string (bs x'),.int .i64 a',.int .i64 e',.slice B' m' d'] 25);have f1:=(ja6 W (.int .i64 k) (.string (bs x)) (.int .i64 a) (.int .i64 e) (.slice B m d) 25).keep (jak (Below.refl _ _) (.cells #[.int .i64 k',.string (bs x'),.int .i64 a',.int .i64 e',.slice B' m' d'] 25));have f2:=ja6 (W.alloc (.cells #[.int .i64 k,.string (bs x),.int .i64 a,.int .i64 e,.slice B m d] 25)) (.int .i64 k') (.string (bs x')) (.int .i64 a') (.int .i64 e') (.slice B' m' d') 25;rw[show (W.alloc (.cells #[.int .i64 k,.string (bs x),.int .i64 a,.int .i64 e,.slice B m d] 25)).heap.size=W.heap.size+1 by simp] at f2;obtain ⟨w2,hw2⟩:=jx ((W.alloc (.cells #[.int .i64 k,.string (bs x),.int .i64 a,.int .i64 e,.slice B m d] 25)).alloc (.cells #[.int .i64 k',.string (bs x'),.int .i64 a',.int .i64 e',.slice B' m' d'] 25));rw[hw2] at hB2 f1 f2;have F1:=jj f1;have F2:=jj f2;have BB:=jj hB2;have HW:=jj hw2;clear hvs hvs' hr hr' hB2 f1 f2 hq ih hw2;by_cases ek:k=k'
    · have qek:=jje ek;by_cases ex:x=x'
      · have qex:=str_eq2 ex;by_cases em:m=m'
        · have qm:((m:Int) != (m':Int))=false:=jje (by omega);have Hall:=jj (show eqL false l l'=q by rw[←HQ.out,ek,ex];simp);have hll:=jj (show l.length=l'.length by rw[hlen,hlen',em]);(have hmm:m'≤m:=by omega);(have hmm2:m≤m':=by omega);obtain ⟨_,t0,t1,t2,t3,t4⟩:=F1.out;obtain ⟨_,y0,y1,y2,y3,y4⟩:=F2.out;clear ek ex em hlen hlen';go_enter Tryz.func19,Tryz.ntmps19;go_upto_region 3 with fail;(try rw[HW.out]);go_wp2_with fail;clear t0 t1 t2 t3 t4 y0 y1 y2 y3 y4 HW
          go_loopw [5] (fun z wr=>∃i:Nat,i≤m∧z=.int .i64 (i:Int)∧eqL false (l.take i) (l'.take i)=true∧Below w2.heap.size w2 wr) (fun z _=>m - (intOf z).toNat)
          case atStart=>exact ⟨0,Nat.zero_le _,rfl,by simp[eqL],Below.refl _ _⟩
          case round =>
            obtain ⟨i,hi,rfl,hm,hbel⟩:=hrel;obtain ⟨w3,hw3⟩:∃w3,w3=wr:=⟨wr,rfl⟩;subst hw3;obtain ⟨_,t0,t1,t2,t3,t4⟩:=F1.out.keep hbel;obtain ⟨_,y0,y1,y2,y3,y4⟩:=F2.out.keep hbel;have Hm:=jj hm;have B3:=jj hbel;have B4:=jj (BB.out.trans (hbel.mono BB.out.size));clear hm;by_cases hlt:i<m
            · obtain ⟨gb,o,c0,c1,c2,c3,c4,rfl,hx,x0,x1,x2,x3,x4⟩:=(Hvs.out.below B4.out).at_ hlt;obtain ⟨gb',o',e0,e1,e2,e3,e4,rfl,hy,z0,z1,z2,z3,z4⟩:=(Hvs'.out.below B4.out).at_ (show i<m' by omega);obtain ⟨X,hxl⟩:∃X,l[i]?=some X:=⟨_,List.getElem?_eq_getElem (by rw[Hlen.out];exact hlt)⟩;obtain ⟨Y,hyl⟩:∃Y,l'[i]?=some Y:=⟨_,List.getElem?_eq_getElem (by rw[Hlen'.out];omega)⟩;have hbd:Below W.heap.size W w3.drew:=B4.out.trans ((jba w3).mono B4.out.size);obtain ⟨-,s2⟩:=jdj hxl;have HI:=jj (IH.out X Y w3.drew ok ok' _ _ (by omega) ((Hr.out i _ _ hx hxl).kept hbd) ((Hr'.out i _ _ hy hyl).kept hbd));obtain ⟨n1,n2⟩:=eq_next hll.out Hm.out hxl hyl;(have him:(i:Int)<(m:Int):=by omega);have him':(i:Int)<(m':Int):=by omega
              cases hs:eqN false X Y with
              | true =>
                have Hn:=jj (n1 hs);rw[hs] at HI;clear hs hx hy hxl hyl hbd hbel n1 n2 s2;go_wp2;go_still_tail 10,(by kernel_rfl);change wpList _ _ _ _ _ w3.drew;go_wp2_with fail;(with_reducible refine HI.out.mono ?_);rintro e w4 ⟨rfl,hb4⟩;have B5:=jj (B3.out.trans ((jba w3).mono B3.out.size));have B6:=jj (B5.out.trans (hb4.mono B5.out.size));clear hb4;go_wp2;go_roundw
                case rel=>exact ⟨i+1,by omega,by go_num,Hn.out,B6.out⟩
                case measure=>simp[intOf];omega
              | false =>
                have Hn:=jj (Hall.out.symm.trans (n2 hs));rw[hs] at HI;clear hs hx hy hxl hyl hbd hbel n1 n2 s2;go_wp2;go_still_tail 10,(by kernel_rfl);change wpList _ _ _ _ _ w3.drew;go_wp2_with fail;(with_reducible refine HI.out.mono ?_);rintro e w4 ⟨rfl,hb4⟩;have B5:=jj (B4.out.trans ((jba w3).mono B4.out.size));have B6:=jj (B5.out.trans (hb4.mono B5.out.size));clear hb4;go_wp2;go_ret;exact ⟨ja1 Hn.out.symm,B6.out⟩
            · have hall:=Hm.out;rw[List.take_of_length_le (by rw[Hlen.out];omega),List.take_of_length_le (by rw[Hlen'.out];omega)] at hall;have Hn:=jj (Hall.out.symm.trans hall);clear hall hbel;go_wp2;go_ret;exact ⟨ja1 Hn.out.symm,B4.out⟩
        · have qm:((m:Int) != (m':Int))=true:=jjd (by omega);have Hn:=jj (show q=false by rw[←HQ.out,eqL_len (show l.length≠l'.length by rw[hlen,hlen'];exact em)];simp);obtain ⟨_,t0,t1,t2,t3,t4⟩:=F1.out;obtain ⟨_,y0,y1,y2,y3,y4⟩:=F2.out;clear hlen hlen' em ek ex;go_enter Tryz.func19,Tryz.ntmps19;go_upto_region 1 with fail;(try rw[HW.out]);go_wp2;go_ret;exact ⟨ja1 Hn.out.symm,BB.out⟩
      · have qex:=str_ne2 ex;have Hn:=jj (show q=false by rw[←HQ.out];simp[ex]);obtain ⟨_,t0,t1,t2,t3,t4⟩:=F1.out;obtain ⟨_,y0,y1,y2,y3,y4⟩:=F2.out;clear hlen hlen' ek ex;go_enter Tryz.func19,Tryz.ntmps19;go_upto_region 1 with fail;(try rw[HW.out]);go_wp2;go_ret;exact ⟨ja1 Hn.out.symm,BB.out⟩
    · have qek:=jjd ek;have Hn:=jj (show q=false by rw[←HQ.out];simp[ek]);obtain ⟨_,t0,t1,t2,t3,t4⟩:=F1.out;obtain ⟨_,y0,y1,y2,y3,y4⟩:=F2.out;clear hlen hlen' ek;go_enter Tryz.func19,Tryz.ntmps19;go_upto_region 1 with fail;(try rw[HW.out]);go_wp2;go_ret;exact ⟨ja1 Hn.out.symm,BB.out⟩
theorem rSameAll:∀(f:Nat) (n n':Nd) (W:World) (ok ok':Nat→Prop) (v v':Value),sizeN n≤f→NdV W ok v n→NdV W ok' v' n' →
    Calls Tryz.prog 13 #[v,v'] W fun e w'=>e=.returned (.bool (eqN true n n'))∧Below W.heap.size W w':=by
  intro f
  induction f with
  | zero=>intro n n' W ok ok' v v' h;cases n;rw[sizeN] at h;omega
  | succ f ih =>
    intro n n' W ok ok' v v' hf hv hv';obtain ⟨q,hq⟩:=jx (eqN true n n');rw[hq]
    cases hv with
    | mk k a e x B m d vs l hvs hlen hr =>
    cases hv' with
    | mk k' a' e' x' B' m' d' vs' l' hvs' hlen' hr' =>
    rw[eqN] at hq;rw[sizeN] at hf;have hmd:=hvs.1;have hdd:=hvs.2.1;have hmd':=hvs'.1;have hdd':=hvs'.2.1;have Hvs:=jj hvs;have Hvs':=jj hvs';have Hlen:=jj hlen;have Hlen':=jj hlen';have Hr:=jj hr;have Hr':=jj hr';have IH:=jj ih;have HQ:=jj hq;have hB2:=jak (jak (Below.refl _ W) (.cells #[.int .i64 k,.string (bs x),.int .i64 a,.int .i64 e,.slice B m d] 25)) (.cells #[.int .i64 k',.string (bs x'),.int .i64 a',.int .i64 e',.slice B' m' d'] 25);have f1:=(ja6 W (.int .i64 k) (.string (bs x)) (.int .i64 a) (.int .i64 e) (.slice B m d) 25).keep (jak (Below.refl _ _) (.cells #[.int .i64 k',.string (bs x'),.int .i64 a',.int .i64 e',.slice B' m' d'] 25));have f2:=ja6 (W.alloc (.cells #[.int .i64 k,.string (bs x),.int .i64 a,.int .i64 e,.slice B m d] 25)) (.int .i64 k') (.string (bs x')) (.int .i64 a') (.int .i64 e') (.slice B' m' d') 25;rw[show (W.alloc (.cells #[.int .i64 k,.string (bs x),.int .i64 a,.int .i64 e,.slice B m d] 25)).heap.size=W.heap.size+1 by simp] at f2;obtain ⟨w2,hw2⟩:=jx ((W.alloc (.cells #[.int .i64 k,.string (bs x),.int .i64 a,.int .i64 e,.slice B m d] 25)).alloc (.cells #[.int .i64 k',.string (bs x'),.int .i64 a',.int .i64 e',.slice B' m' d'] 25));rw[hw2] at hB2 f1 f2;have F1:=jj f1;have F2:=jj f2;have BB:=jj hB2;have HW:=jj hw2;clear hvs hvs' hr hr' hB2 f1 f2 hq ih hw2;by_cases ek:k=k'
    · have qek:=jje ek;by_cases ex:x=x'
      · have qex:=str_eq2 ex;by_cases ea:a=a'
        · have qea:=jje ea;by_cases ee:e=e'
          · have qee:=jje ee;by_cases em:m=m'
            · have qm:((m:Int) != (m':Int))=false:=jje (by omega);have Hall:=jj (show eqL true l l'=q by rw[←HQ.out,ek,ex,ea,ee];simp);have hll:=jj (show l.length=l'.length by rw[hlen,hlen',em]);(have hmm:m'≤m:=by omega);(have hmm2:m≤m':=by omega);obtain ⟨_,t0,t1,t2,t3,t4⟩:=F1.out;obtain ⟨_,y0,y1,y2,y3,y4⟩:=F2.out;clear ek ex em hlen hlen' ea ee;go_enter Tryz.func13,Tryz.ntmps13;go_upto_region 3 with fail;(try rw[HW.out]);go_wp2_with fail;clear t0 t1 t2 t3 t4 y0 y1 y2 y3 y4 HW
              go_loopw [5] (fun z wr=>∃i:Nat,i≤m∧z=.int .i64 (i:Int)∧eqL true (l.take i) (l'.take i)=true∧Below w2.heap.size w2 wr) (fun z _=>m - (intOf z).toNat)
              case atStart=>exact ⟨0,Nat.zero_le _,rfl,by simp[eqL],Below.refl _ _⟩
              case round =>
                obtain ⟨i,hi,rfl,hm,hbel⟩:=hrel;obtain ⟨w3,hw3⟩:∃w3,w3=wr:=⟨wr,rfl⟩;subst hw3;obtain ⟨_,t0,t1,t2,t3,t4⟩:=F1.out.keep hbel;obtain ⟨_,y0,y1,y2,y3,y4⟩:=F2.out.keep hbel;have Hm:=jj hm;have B3:=jj hbel;have B4:=jj (BB.out.trans (hbel.mono BB.out.size));clear hm;by_cases hlt:i<m
                · obtain ⟨gb,o,c0,c1,c2,c3,c4,rfl,hx,x0,x1,x2,x3,x4⟩:=(Hvs.out.below B4.out).at_ hlt;obtain ⟨gb',o',e0,e1,e2,e3,e4,rfl,hy,z0,z1,z2,z3,z4⟩:=(Hvs'.out.below B4.out).at_ (show i<m' by omega);obtain ⟨X,hxl⟩:∃X,l[i]?=some X:=⟨_,List.getElem?_eq_getElem (by rw[Hlen.out];exact hlt)⟩;obtain ⟨Y,hyl⟩:∃Y,l'[i]?=some Y:=⟨_,List.getElem?_eq_getElem (by rw[Hlen'.out];omega)⟩;have hbd:Below W.heap.size W w3.drew:=B4.out.trans ((jba w3).mono B4.out.size);obtain ⟨-,s2⟩:=jdj hxl;have HI:=jj (IH.out X Y w3.drew ok ok' _ _ (by omega) ((Hr.out i _ _ hx hxl).kept hbd) ((Hr'.out i _ _ hy hyl).kept hbd));obtain ⟨n1,n2⟩:=eq_next hll.out Hm.out hxl hyl;(have him:(i:Int)<(m:Int):=by omega);have him':(i:Int)<(m':Int):=by omega
                  cases hs:eqN true X Y with
                  | true =>
                    have Hn:=jj (n1 hs);rw[hs] at HI;clear hs hx hy hxl hyl hbd hbel n1 n2 s2;go_wp2;go_still_tail 10,(by kernel_rfl);change wpList _ _ _ _ _ w3.drew;go_wp2_with fail;(with_reducible refine HI.out.mono ?_);rintro e w4 ⟨rfl,hb4⟩;have B5:=jj (B3.out.trans ((jba w3).mono B3.out.size));have B6:=jj (B5.out.trans (hb4.mono B5.out.size));clear hb4;go_wp2;go_roundw
                    case rel=>exact ⟨i+1,by omega,by go_num,Hn.out,B6.out⟩
                    case measure=>simp[intOf];omega
                  | false =>
                    have Hn:=jj (Hall.out.symm.trans (n2 hs));rw[hs] at HI;clear hs hx hy hxl hyl hbd hbel n1 n2 s2;go_wp2;go_still_tail 10,(by kernel_rfl);change wpList _ _ _ _ _ w3.drew;go_wp2_with fail;(with_reducible refine HI.out.mono ?_);rintro e w4 ⟨rfl,hb4⟩;have B5:=jj (B4.out.trans ((jba w3).mono B4.out.size));have B6:=jj (B5.out.trans (hb4.mono B5.out.size));clear hb4;go_wp2;go_ret;exact ⟨ja1 Hn.out.symm,B6.out⟩
                · have hall:=Hm.out;rw[List.take_of_length_le (by rw[Hlen.out];omega),List.take_of_length_le (by rw[Hlen'.out];omega)] at hall;have Hn:=jj (Hall.out.symm.trans hall);clear hall hbel;go_wp2;go_ret;exact ⟨ja1 Hn.out.symm,B4.out⟩
            · have qm:((m:Int) != (m':Int))=true:=jjd (by omega);have Hn:=jj (show q=false by rw[←HQ.out,eqL_len (show l.length≠l'.length by rw[hlen,hlen'];exact em)];simp);obtain ⟨_,t0,t1,t2,t3,t4⟩:=F1.out;obtain ⟨_,y0,y1,y2,y3,y4⟩:=F2.out;clear hlen hlen' em ek ex ea ee;go_enter Tryz.func13,Tryz.ntmps13;go_upto_region 1 with fail;(try rw[HW.out]);go_wp2;go_ret;exact ⟨ja1 Hn.out.symm,BB.out⟩
          · have qee:=jjd ee;have Hn:=jj (show q=false by rw[←HQ.out];simp[ee]);obtain ⟨_,t0,t1,t2,t3,t4⟩:=F1.out;obtain ⟨_,y0,y1,y2,y3,y4⟩:=F2.out;clear hlen hlen' ek ex ea ee;go_enter Tryz.func13,Tryz.ntmps13;go_upto_region 1 with fail;(try rw[HW.out]);go_wp2;go_ret;exact ⟨ja1 Hn.out.symm,BB.out⟩
        · have qea:=jjd ea;have Hn:=jj (show q=false by rw[←HQ.out];simp[ea]);obtain ⟨_,t0,t1,t2,t3,t4⟩:=F1.out;obtain ⟨_,y0,y1,y2,y3,y4⟩:=F2.out;clear hlen hlen' ek ex ea;go_enter Tryz.func13,Tryz.ntmps13;go_upto_region 1 with fail;(try rw[HW.out]);go_wp2;go_ret;exact ⟨ja1 Hn.out.symm,BB.out⟩
      · have qex:=str_ne2 ex;have Hn:=jj (show q=false by rw[←HQ.out];simp[ex]);obtain ⟨_,t0,t1,t2,t3,t4⟩:=F1.out;obtain ⟨_,y0,y1,y2,y3,y4⟩:=F2.out;clear hlen hlen' ek ex;go_enter Tryz.func13,Tryz.ntmps13;go_upto_region 1 with fail;(try rw[HW.out]);go_wp2;go_ret;exact ⟨ja1 Hn.out.symm,BB.out⟩
    · have qek:=jjd ek;have Hn:=jj (show q=false by rw[←HQ.out];simp[ek]);obtain ⟨_,t0,t1,t2,t3,t4⟩:=F1.out;obtain ⟨_,y0,y1,y2,y3,y4⟩:=F2.out;clear hlen hlen' ek;go_enter Tryz.func13,Tryz.ntmps13;go_upto_region 1 with fail;(try rw[HW.out]);go_wp2;go_ret;exact ⟨ja1 Hn.out.symm,BB.out⟩
end
section
open Go.RowKit
theorem runv_same (xs:Array Value) (W:World):(callFunc 18 xs).run Tryz.prog W=.ok (.enter 18 xs) W:=by kernel_rfl
theorem eqi {a b:Int} (h:a=b):(a==b)=true:=by rw[h];simp
theorem nei {a b:Int} (h:¬a=b):(a==b)=false:=beq_eq_false_iff_ne.2 h
theorem pequalfunc {W:World} {ok ok':Nat→Prop} {B B':Option Addr} {m d m' d':Nat} {l l':List Nd} (h:NdS W ok B m d l) (h':NdS W ok' B' m' d' l')
    (hp:∀x∈l,∀(W':World) (v v':Value) (y:Nd),NdV W' ok v x→NdV W' ok' v' y→Calls Tryz.prog 18 #[v,v'] W' fun e w'=>e=.returned (.bool (eqN false x y))∧Below W'.heap.size W' w') :
    Calls Tryz.prog 48 #[.slice B m d,.slice B' m' d',.func (.func 18) #[] #[]] W fun e w'=>e=.returned (.bool (eqL false l l'))∧Below W.heap.size W w':=by
  obtain ⟨q,hq⟩:=jx (eqL false l l');rw[hq];have HQ:=jj hq;have hl:=h.len.1;have hl':=h'.len.1;have hmd:=h.len.2.1;have hdd:=h.len.2.2;have hmd':=h'.len.2.1;have hdd':=h'.len.2.2;have Hs:=jj h;have Hs':=jj h';have Hp:=jj hp;have hcf:=runv_same;have Hl:=jj hl;have Hl':=jj hl';by_cases hnm:m=m'
  · have hq:((m:Int) != (m':Int))=false:=jje (by omega);(have hmm1:m≤m':=by omega);(have hmm2:m'≤m:=by omega);have hll:=jj (show l.length=l'.length by omega);clear h h' hp hl hl' hnm;go_enter Tryz.func48,Tryz.ntmps48;go_wp2
    go_loopw [17] (fun x wr=>∃k:Nat,k≤m∧x=.int .i64 (k:Int)∧eqL false (l.take k) (l'.take k)=true∧Below W.heap.size W wr) (fun x _=>m - (intOf x).toNat)
    case atStart=>exact ⟨0,Nat.zero_le _,rfl,by simp[eqL],Below.refl _ _⟩
    case round =>
      obtain ⟨i,hi,rfl,hm,hbel⟩:=hrel;obtain ⟨w3,hw3⟩:∃w3,w3=wr:=⟨wr,rfl⟩;subst hw3;have Hm:=jj hm;have B3:=jj hbel;clear hm;by_cases hlt:i<m
      · (have hlt':(i:Int)<(m:Int):=by omega);obtain ⟨g,o,x,xA,xm,xd,rfl,hxl,rx,x0,x1,x2,x3,x4⟩:=(Hs.out.map (fun _ _ hp=>hbel.cell hp) fun _ h _=>h).at_ hlt;have hmem:x∈l:=List.mem_of_getElem? hxl;obtain ⟨w4,hw4⟩:=jx (w3.alloc (.cells #[.int .i64 x.kind,.string (bs x.text),.int .i64 x.at_,.int .i64 x.en,.slice xA xm xd] 25));(have hb4:Below w3.heap.size w3 w4:=by rw[←hw4];exact jak (Below.refl _ w3) _);(have hsz4:w4.heap.size=w3.heap.size+1:=by rw[←hw4];simp);(have hf4:FiveN w4 w3.heap.size (.int .i64 x.kind) (.string (bs x.text)) (.int .i64 x.at_) (.int .i64 x.en) (.slice xA xm xd):=by rw[←hw4];exact ja6 w3 _ _ _ _ _ 25);obtain ⟨g',o',y,yA,ym,yd,rfl,hyl,ry,z0,z1,z2,z3,z4⟩:=(Hs'.out.map (fun _ _ hp=>(hbel.trans (hb4.mono hbel.size)).cell hp) fun _ h _=>h).at_ (show i<m' by omega);have hb5:=jak (Below.refl _ w4) (.cells #[.int .i64 y.kind,.string (bs y.text),.int .i64 y.at_,.int .i64 y.en,.slice yA ym yd] 25);have hf5:=ja6 w4 (.int .i64 y.kind) (.string (bs y.text)) (.int .i64 y.at_) (.int .i64 y.en) (.slice yA ym yd) 25;have hf6:=hf4.keep hb5;have rx5:=((jb7 rx).kept hb4).kept hb5;have ry5:=(jb7 ry).kept hb5;have B5:=jj (hbel.trans ((bgo hb4 hb5).mono hbel.size));have HC:=jj (Hp.out x hmem _ _ _ y rx5 ry5);obtain ⟨n1,n2⟩:=eq_next hll.out Hm.out hxl hyl;rw[hsz4] at hf5;rw[←hw4] at z0 z1 z2 z3 z4 hf5 hf6 HC B5;obtain ⟨-,y0,y1,y2,y3,y4⟩:=hf5;obtain ⟨-,u0,u1,u2,u3,u4⟩:=hf6;have hi':(i:Int)<(m':Int):=by omega
        cases hs:eqN false x y with
        | true =>
          have Hn:=jj (n1 hs);rw[hs] at HC;clear hs hxl hyl rx ry rx5 ry5 hmem hb4 hb5 hbel hw4 hf4 hsz4 n1 n2;go_wp2_with fail;(with_reducible refine HC.out.mono ?_);rintro e w6 ⟨rfl,hb6⟩;have B6:=jj (B5.out.trans (hb6.mono B5.out.size));clear hb6;go_wp2;go_roundw
          case rel=>exact ⟨i+1,by omega,by go_num,Hn.out,B6.out⟩
          case measure=>simp[intOf];omega
        | false =>
          have Hn:=jj (HQ.out.symm.trans (n2 hs));rw[hs] at HC;clear hs hxl hyl rx ry rx5 ry5 hmem hb4 hb5 hbel hw4 hf4 hsz4 n1 n2;go_wp2_with fail;(with_reducible refine HC.out.mono ?_);rintro e w6 ⟨rfl,hb6⟩;have B6:=jj (B5.out.trans (hb6.mono B5.out.size));clear hb6;go_wp2;go_ret;exact ⟨ja1 Hn.out.symm,B6.out⟩
      · have hall:=Hm.out;rw[List.take_of_length_le (by rw[Hl.out];omega),List.take_of_length_le (by rw[Hl'.out];omega)] at hall;have Hn:=jj (HQ.out.symm.trans hall);clear hall hbel;go_wp2;go_ret;exact ⟨ja1 Hn.out.symm,B3.out⟩
  · have hqq:((m:Int) != (m':Int))=true:=jjd (by omega);have Hn:=jj (show q=false by rw[←hq,eqL_len (show l.length≠l'.length by rw[hl,hl'];exact hnm)]);clear h h' hp hl hl' hnm hq;go_enter Tryz.func48,Tryz.ntmps48;go_wp2;go_ret;exact ⟨ja1 Hn.out.symm,Below.refl _ _⟩
theorem pSame:∀(f:Nat) (n n':Nd) (W:World) (ok ok':Nat→Prop) (v v':Value),sizeN n≤f→NdV W ok v n→NdV W ok' v' n' →
    Calls Tryz.prog 18 #[v,v'] W fun e w'=>e=.returned (.bool (eqN false n n'))∧Below W.heap.size W w':=by
  intro f
  induction f with
  | zero=>intro n n' W ok ok' v v' h;cases n;rw[sizeN] at h;omega
  | succ f ih =>
    intro n n' W ok ok' v v' hf hv hv';obtain ⟨q,hq⟩:=jx (eqN false n n');rw[hq]
    cases hv with
    | mk k a e x B m d vs l hvs hlen hr =>
    cases hv' with
    | mk k' a' e' x' B' m' d' vs' l' hvs' hlen' hr' =>
    rw[eqN] at hq;rw[sizeN] at hf;have HQ:=jj hq;have hB2:=jak (jak (Below.refl _ W) (.cells #[.int .i64 k,.string (bs x),.int .i64 a,.int .i64 e,.slice B m d] 25)) (.cells #[.int .i64 k',.string (bs x'),.int .i64 a',.int .i64 e',.slice B' m' d'] 25);have hT:NdS W ok B m d l:=⟨vs,hvs,hlen,hr⟩;have hT':NdS W ok' B' m' d' l':=⟨vs',hvs',hlen',hr'⟩;have f1:=(ja6 W (.int .i64 k) (.string (bs x)) (.int .i64 a) (.int .i64 e) (.slice B m d) 25).keep (jak (Below.refl _ _) (.cells #[.int .i64 k',.string (bs x'),.int .i64 a',.int .i64 e',.slice B' m' d'] 25));have f2:=ja6 (W.alloc (.cells #[.int .i64 k,.string (bs x),.int .i64 a,.int .i64 e,.slice B m d] 25)) (.int .i64 k') (.string (bs x')) (.int .i64 a') (.int .i64 e') (.slice B' m' d') 25;rw[show (W.alloc (.cells #[.int .i64 k,.string (bs x),.int .i64 a,.int .i64 e,.slice B m d] 25)).heap.size=W.heap.size+1 by simp] at f2;obtain ⟨w2,hw2⟩:=jx ((W.alloc (.cells #[.int .i64 k,.string (bs x),.int .i64 a,.int .i64 e,.slice B m d] 25)).alloc (.cells #[.int .i64 k',.string (bs x'),.int .i64 a',.int .i64 e',.slice B' m' d'] 25));rw[hw2] at hB2 f1 f2
    have HD:=jj (pequalfunc (hT.kept hB2) (hT'.kept hB2) (fun X hX W' u u' Y h h'=>by
      obtain ⟨i,hi⟩:=List.getElem?_of_mem hX;have:=(jdj hi).2
      exact ih X Y W' ok ok' u u' (by omega) h h'))
    have BB:=jj hB2;have HW:=jj hw2;obtain ⟨_,t0,t1,t2,t3,t4⟩:=f1;obtain ⟨_,y0,y1,y2,y3,y4⟩:=f2;clear hvs hvs' hr hr' hB2 hq ih hw2 hT hT' hlen hlen';by_cases ek:k=k'
    · have qk:=eqi ek;by_cases ex:x=x'
      · have qx:=str_eq2 ex;obtain ⟨Q,hQ⟩:=jx (eqL false l l');rw[hQ] at HD;have Hn:=jj (show q=Q by rw[←HQ.out,ek,ex,hQ];simp);clear ek ex hQ hf;go_enter Tryz.func18,Tryz.ntmps18;go_upto_region 1 with fail;rw[HW.out];go_wp2_with fail;(with_reducible refine HD.out.mono ?_);rintro e w5 ⟨rfl,hb5⟩;have B5:=jj (bgo BB.out hb5);clear hb5;go_wp2;go_ret;exact ⟨ja1 Hn.out.symm,B5.out⟩
      · have qx:=str_ne2 ex;have Hn:=jj (show q=false by rw[←HQ.out];simp[ex]);clear ek ex;go_enter Tryz.func18,Tryz.ntmps18;go_upto_region 1 with fail;rw[HW.out];go_wp2_with fail;go_ret;exact ⟨ja1 Hn.out.symm,BB.out⟩
    · have qk:=nei ek;have Hn:=jj (show q=false by rw[←HQ.out];simp[ek]);clear ek;go_enter Tryz.func18,Tryz.ntmps18;go_upto_region 1 with fail;rw[HW.out];go_wp2_with fail;go_ret;exact ⟨ja1 Hn.out.symm,BB.out⟩
theorem pSize:∀(f:Nat) (n:Nd) (W:World) (v:Value),sizeN n≤f→sizeN n≤1000000000→NdV W (fun _=>True) v n →
    Calls Tryz.prog 20 #[v] W fun e w'=>e=.returned (.int .i64 (sizeN n:Int))∧Below W.heap.size W w':=by
  intro f
  induction f with
  | zero=>intro n W v h;cases n;rw[sizeN] at h;omega
  | succ f ih =>
    intro n W v hf h9 hv
    cases hv with
    | mk k a e x B m d vs l hvs hlen hr =>
      have HV:=jj (show NdS W (fun _=>True) B m d l from ⟨vs,hvs,hlen,hr⟩);have Hl:=jj hlen;have hmd:=hvs.1;have hdd:=hvs.2.1;rw[sizeN] at hf h9;have HS:=jj (show sizeN (.mk k x a e l)=ja8 l+1 by rw[sizeN]);have HB:=jj (jak (Below.refl W.heap.size W) (.cells #[.int .i64 k,.string (bs x),.int .i64 a,.int .i64 e,.slice B m d] 25));have HF:=jj (ja6 W (.int .i64 k) (.string (bs x)) (.int .i64 a) (.int .i64 e) (.slice B m d) 25);have IH:=jj ih
      skip
      clear hr hvs hlen ih;go_enter Tryz.func20,Tryz.ntmps20;go_upto_region 1 with fail;obtain ⟨w1,hW1⟩:=jx (W.alloc (.cells #[.int .i64 k,.string (bs x),.int .i64 a,.int .i64 e,.slice B m d] 25));rw[hW1] at HB HF ⊢;clear hW1;obtain ⟨-,t0,t1,t2,t3,t4⟩:=HF.out;go_wp2_with fail;clear t0 t1 t2 t3 t4
      go_loopw [3,9] (fun u y wr=>∃i:Nat,i≤m∧u=.int .i64 ((ja8 (l.take i)+1:Nat):Int)∧y=.int .i64 (i:Int)∧Below w1.heap.size w1 wr) (fun _ y _=>m - (intOf y).toNat)
      case atStart=>exact ⟨0,Nat.zero_le _,rfl,rfl,Below.refl _ _⟩
      case round =>
        obtain ⟨i,hi,rfl,rfl,hb⟩:=hrel;rename_i wr _;have hbw:=bgo HB.out hb;by_cases hlt:i<m
        · (have hki:(i:Int)<(m:Int):=by omega);obtain ⟨g,o,y,yA,ym,yd,rfl,hy,ry,x0,x1,x2,x3,x4⟩:=(HV.out.kept hbw).at_ hlt;obtain ⟨s1,s2⟩:=jdj hy
          skip
          have bk:=jak (Below.refl _ wr) (.cells #[.int .i64 y.kind,.string (bs y.text),.int .i64 y.at_,.int .i64 y.en,.slice yA ym yd] 25);have HC:=jj (IH.out y (wr.alloc (.cells #[.int .i64 y.kind,.string (bs y.text),.int .i64 y.at_,.int .i64 y.en,.slice yA ym yd] 25)) _ (by omega) (by omega) ((jb7 ry).kept bk));obtain ⟨-,t0,t1,t2,t3,t4⟩:=ja6 wr (.int .i64 y.kind) (.string (bs y.text)) (.int .i64 y.at_) (.int .i64 y.en) (.slice yA ym yd) 25;obtain ⟨Z,hZ⟩:∃Z:Nat,(ja8 (l.take i)+1)=Z:=⟨_,rfl⟩;obtain ⟨Y,hY⟩:=jx (sizeN y);rw[hY] at HC s1 s2;rw[hZ];have Hs:=jj (show ((Z:Int)+(Y:Int))=((ja8 (l.take (i+1))+1:Nat):Int) by omega);(have hZY:Z+Y≤1000000000:=by omega);have Hb:=jj (bgo hb bk);clear hy s1 s2  hZ hY hb hbw bk hf h9 ry;go_wp2_with fail;(with_reducible refine HC.out.mono ?_);rintro e2 w2 ⟨rfl,hb2⟩;have Hb2:=jj (bgo Hb.out hb2);clear hb2 x0 x1 x2 x3 x4 t0 t1 t2 t3 t4;go_wp2;go_roundw
          case rel=>exact ⟨i+1,by omega,by rw[Hs.out],by go_num,Hb2.out⟩
          case measure=>simp[intOf];omega
        · (have hki:¬(i:Int)<(m:Int):=by omega);(have hz:ja8 (l.take i)=ja8 l:=by rw[List.take_of_length_le (by rw[Hl.out];omega)]);obtain ⟨Z,hZ⟩:∃Z:Nat,(ja8 (l.take i)+1)=Z:=⟨_,rfl⟩;have Hz:=jj (show (Z:Int)=((sizeN (.mk k x a e l):Nat):Int) by rw[HS.out];omega);(have hZ9:Z≤1000000000:=by omega);rw[hZ];have Hb:=jj hbw;clear hb hbw hZ hz  hf h9;go_wp2;go_ret;exact ⟨congrArg (fun z=>Ending.returned (.int .i64 z)) Hz.out,Hb.out⟩
theorem pDepth:∀(f:Nat) (n:Nd) (W:World) (v:Value),sizeN n≤f→sizeN n≤1000000000→NdV W (fun _=>True) v n →
    Calls Tryz.prog 22 #[v] W fun e w'=>e=.returned (.int .i64 (jde n:Int))∧Below W.heap.size W w':=by
  intro f
  induction f with
  | zero=>intro n W v h;cases n;rw[sizeN] at h;omega
  | succ f ih =>
    intro n W v hf h9 hv
    cases hv with
    | mk k a e x B m d vs l hvs hlen hr =>
      have HV:=jj (show NdS W (fun _=>True) B m d l from ⟨vs,hvs,hlen,hr⟩);have Hl:=jj hlen;have hmd:=hvs.1;have hdd:=hvs.2.1;rw[sizeN] at hf h9;have HS:=jj (show jde (.mk k x a e l)=jd3 l+1 by rw[jde]);have HB:=jj (jak (Below.refl W.heap.size W) (.cells #[.int .i64 k,.string (bs x),.int .i64 a,.int .i64 e,.slice B m d] 25));have HF:=jj (ja6 W (.int .i64 k) (.string (bs x)) (.int .i64 a) (.int .i64 e) (.slice B m d) 25);have IH:=jj ih;have hds:=jj8 l;clear hr hvs hlen ih;go_enter Tryz.func22,Tryz.ntmps22;go_upto_region 1 with fail;obtain ⟨w1,hW1⟩:=jx (W.alloc (.cells #[.int .i64 k,.string (bs x),.int .i64 a,.int .i64 e,.slice B m d] 25));rw[hW1] at HB HF ⊢;clear hW1;obtain ⟨-,t0,t1,t2,t3,t4⟩:=HF.out;go_wp2_with fail;clear t0 t1 t2 t3 t4
      go_loopw [3,9] (fun u y wr=>∃i:Nat,i≤m∧u=.int .i64 ((jd3 (l.take i):Nat):Int)∧y=.int .i64 (i:Int)∧Below w1.heap.size w1 wr) (fun _ y _=>m - (intOf y).toNat)
      case atStart=>exact ⟨0,Nat.zero_le _,rfl,rfl,Below.refl _ _⟩
      case round =>
        obtain ⟨i,hi,rfl,rfl,hb⟩:=hrel;rename_i wr _;have hbw:=bgo HB.out hb;by_cases hlt:i<m
        · (have hki:(i:Int)<(m:Int):=by omega);obtain ⟨g,o,y,yA,ym,yd,rfl,hy,ry,x0,x1,x2,x3,x4⟩:=(HV.out.kept hbw).at_ hlt;obtain ⟨s1,s2⟩:=jdj hy;have s3:=depthL_take hy;have bk:=jak (Below.refl _ wr) (.cells #[.int .i64 y.kind,.string (bs y.text),.int .i64 y.at_,.int .i64 y.en,.slice yA ym yd] 25);have HC:=jj (IH.out y (wr.alloc (.cells #[.int .i64 y.kind,.string (bs y.text),.int .i64 y.at_,.int .i64 y.en,.slice yA ym yd] 25)) _ (by omega) (by omega) ((jb7 ry).kept bk));obtain ⟨-,t0,t1,t2,t3,t4⟩:=ja6 wr (.int .i64 y.kind) (.string (bs y.text)) (.int .i64 y.at_) (.int .i64 y.en) (.slice yA ym yd) 25;obtain ⟨Z,hZ⟩:∃Z:Nat,(jd3 (l.take i))=Z:=⟨_,rfl⟩;obtain ⟨Y,hY⟩:=jx (jde y);rw[hY] at HC s3;rw[hZ] at s3 ⊢;have Hs:=jj (show ((jd3 (l.take (i+1)):Nat):Int)=max (Z:Int) (Y:Int) by rw[s3];omega)
          skip
          have Hb:=jj (bgo hb bk);clear hy s1 s2 s3 hds hZ hY hb hbw bk hf h9 ry;go_wp2_with fail;(with_reducible refine HC.out.mono ?_);rintro e2 w2 ⟨rfl,hb2⟩;have Hb2:=jj (bgo Hb.out hb2);clear hb2 x0 x1 x2 x3 x4 t0 t1 t2 t3 t4;go_wp2;go_roundw
          case rel=>exact ⟨i+1,by omega,by rw[Hs.out],by go_num,Hb2.out⟩
          case measure=>simp[intOf];omega
        · (have hki:¬(i:Int)<(m:Int):=by omega);(have hz:jd3 (l.take i)=jd3 l:=by rw[List.take_of_length_le (by rw[Hl.out];omega)]);obtain ⟨Z,hZ⟩:∃Z:Nat,(jd3 (l.take i))=Z:=⟨_,rfl⟩;have Hz:=jj (show 1+(Z:Int)=((jde (.mk k x a e l):Nat):Int) by rw[HS.out];omega);(have hZ9:Z≤1000000000:=by omega);rw[hZ];have Hb:=jj hbw;clear hb hbw hZ hz hds hf h9;go_wp2;go_ret;exact ⟨congrArg (fun z=>Ending.returned (.int .i64 z)) Hz.out,Hb.out⟩
end
section
open Go.RowKit
theorem addO (g o j:Nat):(⟨g,o,none⟩:Addr).add j=⟨g,o+j,none⟩:=by
  unfold Addr.add;split<;>simp_all
theorem nds_news {W:World} {ok:Nat→Prop} {ad:Addr} {m d:Nat} {l:List Nd} (h:NdS W ok (some ad) m d l) :
    ∃vs news:List Value,vs.length=m∧l.length=m∧(∀(i:Nat) (v:Value) (y:Nd),vs[i]?=some v→l[i]?=some y→NdV W ok v y)∧news.length=m*5 ∧
      (∀(i:Nat) (u:Value),vs[i]?=some u→∃c0 c1 c2 c3 c4,u=.agg #[c0,c1,c2,c3,c4]∧news[i*5]?=some c0∧news[i*5+1]?=some c1∧news[i*5+2]?=some c2∧news[i*5+3]?=some c3∧news[i*5+4]?=some c4) ∧
      (∀j u,news[j]?=some u→W.cell? (ad.add j)=some u)∧∀u∈news,u.oneCell'=true:=by
  obtain ⟨vs,hvs,hl,hr⟩:=h;have hv:vs.length=m:=hvs.2.2.1
  have key:∀(i:Nat) (u:Value),vs[i]?=some u→∃c0 c1 c2 c3 c4,u=.agg #[c0,c1,c2,c3,c4]∧(∀k,k<5→W.cell? (ad.add (i*5+k))=[c0,c1,c2,c3,c4][k]?)∧∀c∈[c0,c1,c2,c3,c4],c.oneCell'=true:=by
    intro i u hu;obtain ⟨g,o,c0,c1,c2,c3,c4,hB,-,e,h0,h1,h2,h3,h4⟩:=hvs.2.2.2 i u hu;cases hB;have hi:=(List.getElem?_eq_some_iff.1 hu).1;obtain ⟨d0,d1,d2,d3,d4,e',o0,o1,o2,o3,o4⟩:=(hr i u _ hu (List.getElem?_eq_getElem (by omega))).agg;rw[e] at e';injection e' with e';injection e' with e';simp only[List.cons.injEq,and_true] at e';obtain ⟨rfl,rfl,rfl,rfl,rfl⟩:=e';refine ⟨c0,c1,c2,c3,c4,e,fun k hk=>?_,fun c hc=>?_⟩
    · rw[addO]
      match k,hk with
      | 0,_=>exact h0
      | 1,_=>rw[←Nat.add_assoc];exact h1
      | 2,_=>rw[←Nat.add_assoc];exact h2
      | 3,_=>rw[←Nat.add_assoc];exact h3
      | 4,_=>rw[←Nat.add_assoc];exact h4
    · simp only[List.mem_cons,List.not_mem_nil,or_false] at hc;rcases hc with rfl | rfl | rfl | rfl | rfl<;>assumption
  let news:=(List.range (m*5)).map fun j=>(W.cell? (ad.add j)).getD undef
  have hnl:news.length=m*5:=by simp[news]
  have hat:∀j,j<m*5→news[j]?=some ((W.cell? (ad.add j)).getD undef):=fun j hj=>by
    simp only[news,List.getElem?_map,List.getElem?_range hj,Option.map_some]
  have hcell:∀(i:Nat) (u:Value),vs[i]?=some u→∃c0 c1 c2 c3 c4,u=.agg #[c0,c1,c2,c3,c4]∧(∀k,k<5→news[i*5+k]?=[c0,c1,c2,c3,c4][k]?∧W.cell? (ad.add (i*5+k))=[c0,c1,c2,c3,c4][k]?)∧∀c∈[c0,c1,c2,c3,c4],c.oneCell'=true:=by
    intro i u hu;obtain ⟨c0,c1,c2,c3,c4,e,hc,ho⟩:=key i u hu;have hi:=(List.getElem?_eq_some_iff.1 hu).1;refine ⟨c0,c1,c2,c3,c4,e,fun k hk=>⟨?_,hc k hk⟩,ho⟩;rw[hat _ (by omega),hc k hk]
    match k,hk with
    | 0,_=>rfl
    | 1,_=>rfl
    | 2,_=>rfl
    | 3,_=>rfl
    | 4,_=>rfl
  have hdiv:∀(j:Nat) (u:Value),news[j]?=some u→∃i v,vs[i]?=some v∧j=i*5+j % 5:=by
    intro j u hj;have hj':=(List.getElem?_eq_some_iff.1 hj).1;exact ⟨j / 5,_,List.getElem?_eq_getElem (by omega),by omega⟩
  refine ⟨vs,news,hv,hl,hr,hnl,fun i u hu=>?_,fun j u hj=>?_,fun u hu=>?_⟩
  · obtain ⟨c0,c1,c2,c3,c4,e,hc,-⟩:=hcell i u hu;exact ⟨c0,c1,c2,c3,c4,e,(hc 0 (by omega)).1,(hc 1 (by omega)).1,(hc 2 (by omega)).1,(hc 3 (by omega)).1,(hc 4 (by omega)).1⟩
  · obtain ⟨i,v,hv',e⟩:=hdiv j u hj;obtain ⟨c0,c1,c2,c3,c4,-,hc,-⟩:=hcell i v hv';obtain ⟨a1,a2⟩:=hc (j % 5) (by omega);rw[←e] at a1 a2;rw[a2,←a1,hj]
  · obtain ⟨j,hj⟩:=List.getElem?_of_mem hu;obtain ⟨i,v,hv',e⟩:=hdiv j u hj;obtain ⟨c0,c1,c2,c3,c4,-,hc,ho⟩:=hcell i v hv';have a1:=(hc (j % 5) (by omega)).1;rw[←e,hj] at a1;exact ho u (List.mem_of_getElem? a1.symm)
theorem run_app_none0 {P:Program} {w:World} (base:Nat) (t ty e:TypeId) (i:TypeInfo) (size d:Nat) (ht:P.underlying t=some (.slice e)) (hi:P.info? e=some i)
    (v:Value) (n:Nat) (xs:List Value) (hown:w.ownsRow base e size v n xs) :
    (Builtin.append_ #[t,t] ty #[v,.slice none 0 d]).run P w=.ok v w:=by
  rcases hown.2 with ⟨rfl,rfl⟩ | ⟨g,cap,cur,rfl,_,_,hnc,_⟩
  · simp[Builtin.append_,run_underlying ht,sizeOf,typeInfo,hi,Builtin.lenOf,Builtin.firstCells]
  · simp[Builtin.append_,run_underlying ht,sizeOf,typeInfo,hi,Builtin.lenOf,Builtin.firstCells,hnc,storeCells]
section
variable {P:Program} {ops:Array Oper} {rest:List Oper} {o:Oper} {a:Act} {Q:Exit→Act→World→Prop}
theorem wp_join_nd (hgd:o.guard=none) (s x:Operand) (t:TypeId) (ho:o.op=.call { callee:=.builtin .append,args:=#[s,x],argTypes:=#[t,t] })
    (i:TypeInfo) (z:Value) (bytes:Nat) (ht:P.underlying t=some (.slice 25)) (hi:P.info? 25=some i) (hz:i.zero=some z) (hsize:i.size=5) (hby:i.bytes=bytes) (hzs:z.cells.size=5)
    (B:Nat) (q:Nat→Prop) (v:Value) (xs:List Nd) (hs:a.eval s=v) (w0:World) (hown:OwnQ w0 B q v xs) (hB:B≤w0.heap.size)
    (A:Option Addr) (m d:Nat) (ys:List Nd) (hx:a.eval x=.slice A m d) (hy:NdS w0 (fun g=>q g∧v.ownBlock≠some g) A m d ys) (hlen:(xs.length+m)*bytes≤140737488355328) (h63:xs.length+m≤maxLen)
    (h:∀v' w',OwnQ w' B q v' (xs++ys)→Below B w0 w'→Far w0 w' v v'→wpList P ops Q rest (a.put o.dst v') w'):wpList P ops Q (o :: rest) a w0:=by
  obtain ⟨cs,vs,hown,hvl,h3,h4⟩:=hown
  cases A with
  | none =>
    have hl:=hy.len;obtain ⟨us,hus,hul,-⟩:=hy
    have hm:m=0:=by
      rcases Nat.eq_zero_or_pos m with h0 | h0
      · exact h0
      · obtain ⟨g,o,c0,c1,c2,c3,c4,hB,-⟩:=hus.at_ h0;cases hB
    subst hm;obtain rfl:ys=[]:=List.eq_nil_of_length_eq_zero hl.1;refine wpList_plain hgd fun K hK=>?_;have hrun:=run_app_none0 (P:=P) (w:=w0) B t o.type 25 i 5 d ht hi v xs.length cs hown;unfold Oper.wp;simp[execOp,ho,resolve,invoke,builtin,hs,hx,hrun,Result.andThen];refine hK _ _ (h v w0 ⟨cs,vs,by simpa using hown,by simpa using hvl,h3,by simpa using h4⟩ (Below.refl _ _) ⟨Nat.le_refl _,fun g _ hg=>⟨rfl,hg⟩⟩)
  | some ad =>
    obtain ⟨us,news,hul,hyl,hyv,hnl,hn5,hnews,hone⟩:=nds_news hy;refine wpList_append_own_at _ hgd s x t ho B 25 i z 5 bytes ht hi hz hsize hby hzs (by decide) v xs.length cs hs hown ad m d news hx hnl hnews hone h63 hlen hB ?_;intro v' w' hown' hg _ hat
    have hF:Far w0 w' v v':=by
      refine ⟨hg.size,fun g hlt hne=>⟨hg.block g hlt (fun e=>hne e.symm),?_⟩⟩;rcases hat with hat | hat
      · rw[hat];exact hne
      · rw[hat];intro e;injection e with e;omega
    have hmap:∀(u:Value) (y:Nd),NdV w0 (fun g=>q g∧v.ownBlock≠some g) u y→NdV w' (fun g=>q g∧v'.ownBlock≠some g) u y:=fun u y hy =>
      hy.map (fun p hp hlt=>World.cell?_of_block (hF.2 p.block hlt hp.2).1) fun g hg hlt=>⟨hg.1,(hF.2 g hlt hg.2).2⟩
    have hcl:cs.length=xs.length*5:=hown.1;refine h v' w' ⟨cs++news,vs++us,by rw[List.length_append,hyl];exact hown',by simp[hvl,hul,hyl],fun j u hu=>?_,fun j u y hu hy=>?_⟩ ?_ hF
    · by_cases hj:j<vs.length
      · rw[List.getElem?_append_left hj] at hu;obtain ⟨d0,d1,d2,d3,d4,e,e0,e1,e2,e3,e4⟩:=h3 j u hu
        have key:∀(z:Nat) (d:Value),z<5→cs[j*5+z]?=some d→(cs++news)[j*5+z]?=some d:=fun z d hq hd=>by
          rw[List.getElem?_append_left (by omega)];exact hd
        exact ⟨d0,d1,d2,d3,d4,e,key 0 _ (by omega) e0,key 1 _ (by omega) e1,key 2 _ (by omega) e2,key 3 _ (by omega) e3,key 4 _ (by omega) e4⟩
      · rw[List.getElem?_append_right (by omega)] at hu;obtain ⟨d0,d1,d2,d3,d4,e,e0,e1,e2,e3,e4⟩:=hn5 (j - vs.length) u hu
        have key:∀(z:Nat) (d:Value),z<5→news[(j - vs.length)*5+z]?=some d→(cs++news)[j*5+z]?=some d:=fun z d hq hd=>by
          rw[List.getElem?_append_right (by omega),show j*5+z - cs.length=(j - vs.length)*5+z by omega];exact hd
        exact ⟨d0,d1,d2,d3,d4,e,key 0 _ (by omega) e0,key 1 _ (by omega) e1,key 2 _ (by omega) e2,key 3 _ (by omega) e3,key 4 _ (by omega) e4⟩
    · by_cases hj:j<vs.length
      · rw[List.getElem?_append_left hj] at hu;rw[List.getElem?_append_left (by omega)] at hy;exact hmap u y (h4 j u y hu hy)
      · rw[List.getElem?_append_right (by omega)] at hu hy;rw[←hvl] at hy;exact hmap _ _ (hyv _ u y hu hy)
    · exact (Below.refl B w0).grown hg hB fun k hk=>(hown.lt k hk).1
end
end
section
mutual
def jca:Nd→List Nd
  | .mk k x a e l=>.mk k x a e l :: jc7 l
def jc7:List Nd→List Nd
  | []=>[]
  | n :: l=>jca n++jc7 l
end
end
end Go.Proofs.YtonoklmobocikaaGreatDoor
