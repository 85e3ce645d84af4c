/- Lemmas. -/
import Derived.Test.YtonoklmobocikaaGreatDoorK51
set_option linter.unusedVariables false
set_option linter.unusedSimpArgs false
set_option maxRecDepth 20000
set_option maxHeartbeats 6400000
namespace Go.Proofs.YtonoklmobocikaaGreatDoor
section
theorem tsum_60 {T:List Tk} (h:∀t∈T,t.text.length≤60):jib T≤60*T.length:=by
  induction T with
  | nil=>simp[jib]
  | cons t T ih =>
    rw[jib,List.length_cons];have:=h t List.mem_cons_self;have:=ih fun t ht=>h t (List.mem_cons_of_mem _ ht);omega
theorem jmy {d:List UInt8} {n:Nd} {a:Int} (h:jdh d=(n,a,0)):sizeN n≤50000∧txN n≤50000:=by
  obtain ⟨T,hs,x,y,k,j,h1,h2,h3,rfl,rfl,h5⟩:=jlr h;have ho:=(jni hs).1;obtain ⟨hl,ht⟩:=scan_60 hs;obtain ⟨a1,a2,a3⟩:=(show QL T 0 x k from jix ho h1) (Nat.zero_le _);obtain ⟨b1,b2,b3⟩:=(show QL T k y j from jix ho h2) a2;have r1:ja0 T 0+muL x.kids≤ja0 T k:=run_size h1;have r2:ja0 T k+muL y.kids≤ja0 T j:=run_size h2;(have hj:j=T.length:=by omega);subst hj;rw[budg_sum] at r2;have hs:=tsum_60 ht;have hm:=mu_size (.mk 1 [] 0 (d.length:Int) (x.kids++y.kids));rw[jcb,muL_app] at hm;have:([]:List UInt8).length=0:=rfl;omega
end
end Go.Proofs.YtonoklmobocikaaGreatDoor
