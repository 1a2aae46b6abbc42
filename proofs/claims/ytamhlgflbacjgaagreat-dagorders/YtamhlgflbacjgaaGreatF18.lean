/-
  What is proved: as each theorem says.
  Conditions: as each theorem says.
-/
import Derived.Test.YtamhlgflbacjgaaGreatF00
import Derived.Test.YtamhlgflbacjgaaGreatF16
import Derived.Test.YtamhlgflbacjgaaGreatF17
import Derived.Deep.CutBlock
set_option maxRecDepth 100000
set_option maxHeartbeats 16000000
namespace Go.Proofs.YtamhlgflbacjgaaGreat
open Go.RowKit Go.Sort
theorem kn_cells {w:World} {a:Option Addr} {n c:Nat} {l:List KE} (h:IsKn w (.slice a n c) l) {k:Nat} (hk:k<l.length):∃b off,a=some ⟨b,off,none⟩∧b<w.heap.size∧n=l.length∧∀j,j<15→w.cell? ⟨b,off+k*15+j,none⟩=(knCells l[k].1.1 l[k].1.2 l[k].2)[j]?:=by
 obtain⟨a',c',e,_,_,_,h4⟩:=h;obtain⟨rfl,rfl,rfl⟩:=Value.slice.inj e;obtain⟨b,off,rfl,h5,h6⟩:=h4 (fun e=>by rw[e] at hk;simp at hk);exact⟨b,off,rfl,h5,rfl,fun j hj=>h6 k hk j hj⟩
theorem keep30 {W W':World} {kb ko xb:Nat} {u0 u1 u2 u3 u4 u5 u6 u7 u8 u9 u10 u11 u12 u13 u14 v0 v1 v2 v3 v4 v5 v6 v7 v8 v9 v10 v11 v12 v13 v14:Value} (h:W.cell? ⟨kb,ko,none⟩=some u0∧W.cell? ⟨kb,ko+1,none⟩=some u1∧W.cell? ⟨kb,ko+2,none⟩=some u2∧W.cell? ⟨kb,ko+3,none⟩=some u3∧W.cell? ⟨kb,ko+4,none⟩=some u4∧W.cell? ⟨kb,ko+5,none⟩=some u5∧W.cell? ⟨kb,ko+6,none⟩=some u6∧W.cell? ⟨kb,ko+7,none⟩=some u7∧W.cell? ⟨kb,ko+8,none⟩=some u8∧W.cell? ⟨kb,ko+9,none⟩=some u9∧W.cell? ⟨kb,ko+10,none⟩=some u10∧W.cell? ⟨kb,ko+11,none⟩=some u11∧W.cell? ⟨kb,ko+12,none⟩=some u12∧W.cell? ⟨kb,ko+13,none⟩=some u13∧W.cell? ⟨kb,ko+14,none⟩=some u14∧W.cell? ⟨xb,0,none⟩=some v0∧W.cell? ⟨xb,1,none⟩=some v1∧W.cell? ⟨xb,2,none⟩=some v2∧W.cell? ⟨xb,3,none⟩=some v3∧W.cell? ⟨xb,4,none⟩=some v4∧W.cell? ⟨xb,5,none⟩=some v5∧W.cell? ⟨xb,6,none⟩=some v6∧W.cell? ⟨xb,7,none⟩=some v7∧W.cell? ⟨xb,8,none⟩=some v8∧W.cell? ⟨xb,9,none⟩=some v9∧W.cell? ⟨xb,10,none⟩=some v10∧W.cell? ⟨xb,11,none⟩=some v11∧W.cell? ⟨xb,12,none⟩=some v12∧W.cell? ⟨xb,13,none⟩=some v13∧W.cell? ⟨xb,14,none⟩=some v14) (hb:Below W.heap.size W W'):W'.cell? ⟨kb,ko,none⟩=some u0∧W'.cell? ⟨kb,ko+1,none⟩=some u1∧W'.cell? ⟨kb,ko+2,none⟩=some u2∧W'.cell? ⟨kb,ko+3,none⟩=some u3∧W'.cell? ⟨kb,ko+4,none⟩=some u4∧W'.cell? ⟨kb,ko+5,none⟩=some u5∧W'.cell? ⟨kb,ko+6,none⟩=some u6∧W'.cell? ⟨kb,ko+7,none⟩=some u7∧W'.cell? ⟨kb,ko+8,none⟩=some u8∧W'.cell? ⟨kb,ko+9,none⟩=some u9∧W'.cell? ⟨kb,ko+10,none⟩=some u10∧W'.cell? ⟨kb,ko+11,none⟩=some u11∧W'.cell? ⟨kb,ko+12,none⟩=some u12∧W'.cell? ⟨kb,ko+13,none⟩=some u13∧W'.cell? ⟨kb,ko+14,none⟩=some u14∧W'.cell? ⟨xb,0,none⟩=some v0∧W'.cell? ⟨xb,1,none⟩=some v1∧W'.cell? ⟨xb,2,none⟩=some v2∧W'.cell? ⟨xb,3,none⟩=some v3∧W'.cell? ⟨xb,4,none⟩=some v4∧W'.cell? ⟨xb,5,none⟩=some v5∧W'.cell? ⟨xb,6,none⟩=some v6∧W'.cell? ⟨xb,7,none⟩=some v7∧W'.cell? ⟨xb,8,none⟩=some v8∧W'.cell? ⟨xb,9,none⟩=some v9∧W'.cell? ⟨xb,10,none⟩=some v10∧W'.cell? ⟨xb,11,none⟩=some v11∧W'.cell? ⟨xb,12,none⟩=some v12∧W'.cell? ⟨xb,13,none⟩=some v13∧W'.cell? ⟨xb,14,none⟩=some v14:=
 ⟨(hb.cell (cell_in (h.1))).trans (h.1),(hb.cell (cell_in (h.2.1))).trans (h.2.1),(hb.cell (cell_in (h.2.2.1))).trans (h.2.2.1),(hb.cell (cell_in (h.2.2.2.1))).trans (h.2.2.2.1),(hb.cell (cell_in (h.2.2.2.2.1))).trans (h.2.2.2.2.1),(hb.cell (cell_in (h.2.2.2.2.2.1))).trans (h.2.2.2.2.2.1),(hb.cell (cell_in (h.2.2.2.2.2.2.1))).trans (h.2.2.2.2.2.2.1),(hb.cell (cell_in (h.2.2.2.2.2.2.2.1))).trans (h.2.2.2.2.2.2.2.1),(hb.cell (cell_in (h.2.2.2.2.2.2.2.2.1))).trans (h.2.2.2.2.2.2.2.2.1),(hb.cell (cell_in (h.2.2.2.2.2.2.2.2.2.1))).trans (h.2.2.2.2.2.2.2.2.2.1),(hb.cell (cell_in (h.2.2.2.2.2.2.2.2.2.2.1))).trans (h.2.2.2.2.2.2.2.2.2.2.1),(hb.cell (cell_in (h.2.2.2.2.2.2.2.2.2.2.2.1))).trans (h.2.2.2.2.2.2.2.2.2.2.2.1),(hb.cell (cell_in (h.2.2.2.2.2.2.2.2.2.2.2.2.1))).trans (h.2.2.2.2.2.2.2.2.2.2.2.2.1),(hb.cell (cell_in (h.2.2.2.2.2.2.2.2.2.2.2.2.2.1))).trans (h.2.2.2.2.2.2.2.2.2.2.2.2.2.1),(hb.cell (cell_in (h.2.2.2.2.2.2.2.2.2.2.2.2.2.2.1))).trans (h.2.2.2.2.2.2.2.2.2.2.2.2.2.2.1),(hb.cell (cell_in (h.2.2.2.2.2.2.2.2.2.2.2.2.2.2.2.1))).trans (h.2.2.2.2.2.2.2.2.2.2.2.2.2.2.2.1),(hb.cell (cell_in (h.2.2.2.2.2.2.2.2.2.2.2.2.2.2.2.2.1))).trans (h.2.2.2.2.2.2.2.2.2.2.2.2.2.2.2.2.1),(hb.cell (cell_in (h.2.2.2.2.2.2.2.2.2.2.2.2.2.2.2.2.2.1))).trans (h.2.2.2.2.2.2.2.2.2.2.2.2.2.2.2.2.2.1),(hb.cell (cell_in (h.2.2.2.2.2.2.2.2.2.2.2.2.2.2.2.2.2.2.1))).trans (h.2.2.2.2.2.2.2.2.2.2.2.2.2.2.2.2.2.2.1),(hb.cell (cell_in (h.2.2.2.2.2.2.2.2.2.2.2.2.2.2.2.2.2.2.2.1))).trans (h.2.2.2.2.2.2.2.2.2.2.2.2.2.2.2.2.2.2.2.1),(hb.cell (cell_in (h.2.2.2.2.2.2.2.2.2.2.2.2.2.2.2.2.2.2.2.2.1))).trans (h.2.2.2.2.2.2.2.2.2.2.2.2.2.2.2.2.2.2.2.2.1),(hb.cell (cell_in (h.2.2.2.2.2.2.2.2.2.2.2.2.2.2.2.2.2.2.2.2.2.1))).trans (h.2.2.2.2.2.2.2.2.2.2.2.2.2.2.2.2.2.2.2.2.2.1),(hb.cell (cell_in (h.2.2.2.2.2.2.2.2.2.2.2.2.2.2.2.2.2.2.2.2.2.2.1))).trans (h.2.2.2.2.2.2.2.2.2.2.2.2.2.2.2.2.2.2.2.2.2.2.1),(hb.cell (cell_in (h.2.2.2.2.2.2.2.2.2.2.2.2.2.2.2.2.2.2.2.2.2.2.2.1))).trans (h.2.2.2.2.2.2.2.2.2.2.2.2.2.2.2.2.2.2.2.2.2.2.2.1),(hb.cell (cell_in (h.2.2.2.2.2.2.2.2.2.2.2.2.2.2.2.2.2.2.2.2.2.2.2.2.1))).trans (h.2.2.2.2.2.2.2.2.2.2.2.2.2.2.2.2.2.2.2.2.2.2.2.2.1),(hb.cell (cell_in (h.2.2.2.2.2.2.2.2.2.2.2.2.2.2.2.2.2.2.2.2.2.2.2.2.2.1))).trans (h.2.2.2.2.2.2.2.2.2.2.2.2.2.2.2.2.2.2.2.2.2.2.2.2.2.1),(hb.cell (cell_in (h.2.2.2.2.2.2.2.2.2.2.2.2.2.2.2.2.2.2.2.2.2.2.2.2.2.2.1))).trans (h.2.2.2.2.2.2.2.2.2.2.2.2.2.2.2.2.2.2.2.2.2.2.2.2.2.2.1),(hb.cell (cell_in (h.2.2.2.2.2.2.2.2.2.2.2.2.2.2.2.2.2.2.2.2.2.2.2.2.2.2.2.1))).trans (h.2.2.2.2.2.2.2.2.2.2.2.2.2.2.2.2.2.2.2.2.2.2.2.2.2.2.2.1),(hb.cell (cell_in (h.2.2.2.2.2.2.2.2.2.2.2.2.2.2.2.2.2.2.2.2.2.2.2.2.2.2.2.2.1))).trans (h.2.2.2.2.2.2.2.2.2.2.2.2.2.2.2.2.2.2.2.2.2.2.2.2.2.2.2.2.1),(hb.cell (cell_in (h.2.2.2.2.2.2.2.2.2.2.2.2.2.2.2.2.2.2.2.2.2.2.2.2.2.2.2.2.2))).trans (h.2.2.2.2.2.2.2.2.2.2.2.2.2.2.2.2.2.2.2.2.2.2.2.2.2.2.2.2.2)⟩
theorem rMay_any (o:OpM) (ra:Option Addr) (rn rc:Nat) (y:Pr) (v:Value) (l:List KE) (w:World) (hv:IsKn w v l) (hr:IsPairs w (.slice ra rn rc) o.preds):
 Calls Tryz.prog 98 #[.agg (opB o o.ins (.slice ra rn rc) y.1 y.2),v] w fun e w'=>e=.returned (.bool (mayM o y (lkK (keM l))))∧Below w.heap.size w w':=by
 obtain⟨mb,hmb⟩:=gNz (mayM o y (lkK (keM l)):Bool);rw[hmb];have HMB:Hid (mayM o y (lkK (keM l))=mb):=hmb;clear hmb;obtain⟨ka,kn,kc,rfl⟩:∃a n c,v=.slice a n c:=by obtain⟨a,c,e,_⟩:=hv;exact⟨_,_,_,e⟩
 have HV:=hY2 hv hr;have HN0:=hY2 (heap_alloc_new w _:(w.alloc (.cells (opB o o.ins (.slice ra rn rc) y.1 y.2) 131)).heap[w.heap.size]?=some (.cells (opB o o.ins (.slice ra rn rc) y.1 y.2) 131)) (bAl _ _:Below w.heap.size w (w.alloc (.cells (opB o o.ins (.slice ra rn rc) y.1 y.2) 131)));clear hv hr;have E1:=rRoot_any o.obj.1 o.obj.2 (w.alloc (.cells (opB o o.ins (.slice ra rn rc) y.1 y.2) 131));obtain⟨rb,hrb⟩:=gNz (rootB o.obj:Bool);change Calls _ _ _ _ (fun e w'=>e=.returned (.bool (rootB o.obj))∧_) at E1;rw[hrb] at E1;have HRB:Hid (rootB o.obj=rb):=hrb;clear hrb;have c1:(w.alloc (.cells (opB o o.ins (.slice ra rn rc) y.1 y.2) 131)).cell? ⟨w.heap.size,1,none⟩=some (.int .i64 o.obj.1):=cLo HN0.out.1 1;have c2:(w.alloc (.cells (opB o o.ins (.slice ra rn rc) y.1 y.2) 131)).cell? ⟨w.heap.size,2,none⟩=some (.int .i64 o.obj.2):=cLo HN0.out.1 2;go_enter Tryz.func98,Tryz.ntmps98
 go_wp2_with fail;go_fit E1;rintro e w1 ⟨rfl,b1⟩;clear E1 c1 c2;have HN1:=hY2 (heap_below HN0.out.1 b1 lRf) (HN0.out.2.trans (b1.mono HN0.out.2.size));clear b1 HN0;go_upto_if 17 with fail
 go_cut [5,7] from 18 to 40 (fun kd _ wx=>∃K:Int,kd=.int .i64 K∧Hid (kindM o (lkK (keM l))=some K∧wx.heap[w.heap.size]?=some (.cells (opB o o.ins (.slice ra rn rc) y.1 y.2) 131)∧Below w.heap.size w wx))
 case first=>
  cases rb with
  | true=>
   have HKK:Hid (kindM o (lkK (keM l))=some 5):=by
    show _=_;unfold kindM;rw[if_pos HRB.out]
   go_wp2_with fail;go_meet
   case rel=>exact⟨5,rfl,HKK.out,HN1.out⟩
  | false=>
   have HNR:Hid (kindM o (lkK (keM l))=match lkK (keM l) o.obj with | none=>none | some p=>if p.kind=2 then some p.val.k else none):=by
    show _=_;unfold kindM;rw[if_neg (by rw[HRB.out];decide)];cases lkK (keM l) o.obj <;> rfl
   clear HRB;have E2:=rLook_any (.slice ka kn kc) l o.obj w1 (HV.out.1.below HN1.out.2);unfold refV at E2;obtain⟨-,c1,c2,-⟩:=cLs HN1.out.1;go_wp2_with fail;go_fit E2;rintro e w2 ⟨⟨x,rfl,hx⟩,b2⟩;clear E2 c1 c2;have HN2:=hY2 (heap_below HN1.out.1 b2 lRf) (HN1.out.2.trans (b2.mono HN1.out.2.size));clear b2 HN1;rcases hx with⟨rfl,hno⟩ | ⟨k,rfl,hk,hke,hsm⟩
   ·have HF:Hid (mb=false):=by
     show _=_;rw[←HMB.out];unfold mayM;rw[HNR.out,hno]
    clear hno;go_wp2;go_ret;exact⟨by rw[HF.out];rfl,HN2.out.2⟩
   ·obtain⟨hkl,p,hp⟩:k<l.length∧∃p,(keM l)[k].1=p:=⟨by rw[keM_len] at hk;exact hk,_,rfl⟩
    rw[hp] at hsm;obtain⟨kb,ko,rfl,hkb,hkn,hkc⟩:=kn_cells HV.out.1 hkl;have hop:l[k].1.1=p:=by rw[keM_at] at hp;exact hp
    rw[hop] at hkc;have HKB:Hid (∀W,Below w.heap.size w W→∀j,j<15→W.cell? ⟨kb,ko+k*15+j,none⟩=(knCells p l[k].1.2 l[k].2)[j]?):=fun W hW j hj=>(hW.cell (p:=⟨kb,ko+k*15+j,none⟩) hkb).trans (hkc j hj);have x0:w2.cell? ⟨kb,ko+k*15,none⟩=some (.int .i64 p.kind):=HKB.out w2 HN2.out.2 0 (by omega);have x7:w2.cell? ⟨kb,ko+k*15+7,none⟩=some (.int .i64 p.val.k):=HKB.out w2 HN2.out.2 7 (by omega);have gk:(k:Int)<kn:=by omega
    have gj:¬(k:Int)<0:=by omega
    have HSM:Hid (lkK (keM l) o.obj=some p):=hsm;obtain⟨pk,hpk⟩:=gNz (p.kind:Int);obtain⟨pv,hpv⟩:=gNz (p.val.k:Int);rw[hpk] at x0;rw[hpv] at x7;have HPK:=hY2 hpk hpv;clear hk hke hsm hp hop hkb hkn hkc hkl hpk hpv HKB;by_cases h2:pk=2
    ·have h2b:(pk !=2)=false:=by simp[h2]
     have HKK:Hid (kindM o (lkK (keM l))=some pv):=by
      show _=_;rw[HNR.out,HSM.out];simp only;rw[if_pos (by rw[HPK.out.1];exact h2),HPK.out.2]
     clear h2;go_wp2_with fail;go_meet
     case rel=>exact⟨pv,rfl,HKK.out,HN2.out⟩
    ·have h2b:(pk !=2)=true:=by simp[h2]
     have HF:Hid (mb=false):=by
      show _=_;rw[←HMB.out];unfold mayM;rw[HNR.out,HSM.out];simp only;rw[if_neg (by rw[HPK.out.1];exact h2)]
     clear h2;go_wp2;go_ret;exact⟨by rw[HF.out];rfl,HN2.out.2⟩
 case rest=>
  obtain⟨K,rfl,hC⟩:=hcut;clear HRB HN1;have HKM:Hid (kindM o (lkK (keM l))=some K):=hC.out.1;have HN3:Hid (wc.heap[w.heap.size]?=some (.cells (opB o o.ins (.slice ra rn rc) y.1 y.2) 131)∧Below w.heap.size w wc):=hC.out.2;clear hC;generalize wc=w3 at *;obtain⟨-,-,-,c3,-⟩:=cLs HN3.out.1;obtain⟨kb5,hkb5⟩:=gNz (keyM o K:Bool);have HKY:Hid (keyM o K=kb5):=hkb5;clear hkb5;go_upto_region 8 with fail
  go_cut [58] from 41 to 58 (fun z wx=>z=.bool (!kb5)∧w3=wx)
  case first=>
   by_cases he:o.key.toList=[]
   ·by_cases hq:K=5
    ·have he1:(o.key.toList==[])=true:=by rw[he];rfl
     have q5:(K==5)=true:=by rw[hq];rfl
     obtain rfl:kb5=false:=by
      rw[←HKY.out];unfold keyM;simp[hq,he]
     clear HKY;go_wp2_with fail;go_meet
     case rel=>exact⟨rfl,rfl⟩
    ·by_cases hq6:K=6
     ·have he1:(o.key.toList==[])=true:=by rw[he];rfl
      have q5:(K==5)=false:=by rw[hq6];rfl
      have q6:(K==6)=true:=by rw[hq6];rfl
      obtain rfl:kb5=true:=by
       rw[←HKY.out];unfold keyM;simp[hq6,he]
      clear HKY;go_wp2_with fail;go_meet
      case rel=>exact⟨rfl,rfl⟩
     ·have he1:(o.key.toList==[])=true:=by rw[he];rfl
      have q5:(K==5)=false:=by rw[beq_eq_false_iff_ne];exact hq
      have q6:(K==6)=false:=by rw[beq_eq_false_iff_ne];exact hq6
      obtain rfl:kb5=true:=by
       rw[←HKY.out];unfold keyM;simp[hq,hq6]
      clear HKY;go_wp2_with fail;go_meet
      case rel=>exact⟨rfl,rfl⟩
   ·by_cases hq:K=5
    ·have he1:(o.key.toList==[])=false:=by rw[beq_eq_false_iff_ne];exact he
     have q5:(K==5)=true:=by rw[hq];rfl
     obtain rfl:kb5=true:=by
      rw[←HKY.out];unfold keyM;simp[hq,he]
     clear HKY;go_wp2_with fail;go_meet
     case rel=>exact⟨rfl,rfl⟩
    ·by_cases hq6:K=6
     ·have he1:(o.key.toList==[])=false:=by rw[beq_eq_false_iff_ne];exact he
      have q5:(K==5)=false:=by rw[hq6];rfl
      have q6:(K==6)=true:=by rw[hq6];rfl
      obtain rfl:kb5=false:=by
       rw[←HKY.out];unfold keyM;simp[hq6,he]
      clear HKY;go_wp2_with fail;go_meet
      case rel=>exact⟨rfl,rfl⟩
     ·have he1:(o.key.toList==[])=false:=by rw[beq_eq_false_iff_ne];exact he
      have q5:(K==5)=false:=by rw[beq_eq_false_iff_ne];exact hq
      have q6:(K==6)=false:=by rw[beq_eq_false_iff_ne];exact hq6
      obtain rfl:kb5=true:=by
       rw[←HKY.out];unfold keyM;simp[hq,hq6]
      clear HKY;go_wp2_with fail;go_meet
      case rel=>exact⟨rfl,rfl⟩
  case rest=>
   obtain⟨rfl,rfl⟩:=hcut;clear c3;cases kb5 with
   | false=>
    have HF:Hid (mb=false):=by
     show _=_;rw[←HMB.out];unfold mayM;rw[HKM.out];simp[HKY.out]
    go_wp2;go_ret;exact⟨by rw[HF.out];rfl,HN3.out.2⟩
   | true=>
    obtain⟨-,-,-,-,c4,c5,-⟩:=cLs HN3.out.1;have E3:=rRoot_any o.elem.1 o.elem.2 w3;obtain⟨eb,heb⟩:=gNz (rootB o.elem:Bool);change Calls _ _ _ _ (fun e w'=>e=.returned (.bool (rootB o.elem))∧_) at E3;rw[heb] at E3;have HEB:Hid (rootB o.elem=eb):=heb;clear heb;go_wp2_with fail;go_fit E3;rintro e w4 ⟨rfl,b4⟩;clear E3 c4 c5;have HN4:=hY2 (heap_below HN3.out.1 b4 lRf) (HN3.out.2.trans (b4.mono HN3.out.2.size));clear b4 HN3;go_upto_if 64 with fail
    go_cut [8] from 65 to 92 (fun _ wx=>Hid (elM o (lkK (keM l))=true∧wx.heap[w.heap.size]?=some (.cells (opB o o.ins (.slice ra rn rc) y.1 y.2) 131)∧Below w.heap.size w wx))
    case first=>
     cases eb with
     | true=>
      have HEL:Hid (elM o (lkK (keM l))=true):=by
       show _=_;unfold elM;rw[HEB.out];rfl
      clear HEB;go_wp2_with fail;go_meet
      case rel=>exact⟨HEL.out,HN4.out⟩
     | false=>
      have HEL:Hid (elM o (lkK (keM l))=match lkK (keM l) o.elem with | none=>false | some p=>p.ins&&samePr p.obj o.obj):=by
       show _=_;unfold elM;rw[HEB.out];cases lkK (keM l) o.elem <;> rfl
      clear HEB;have E4:=rLook_any (.slice ka kn kc) l o.elem w4 (HV.out.1.below HN4.out.2);unfold refV at E4;obtain⟨-,-,-,-,c4,c5,-⟩:=cLs HN4.out.1;go_wp2_with fail;go_fit E4;rintro e w5 ⟨⟨x,rfl,hx⟩,b5⟩;clear E4 c4 c5;have HN5:=hY2 (heap_below HN4.out.1 b5 lRf) (HN4.out.2.trans (b5.mono HN4.out.2.size));clear b5 HN4;have HD5:=hY2 HN5.out.1 (drew_of HN5.out.2);obtain⟨-,c1,c2,-⟩:=cLs HN5.out.1;rcases hx with⟨rfl,hno⟩ | ⟨k,rfl,hk,hke,hsm⟩
      ·have HEF:Hid (elM o (lkK (keM l))=false):=by
        show _=_;rw[HEL.out,hno]
       clear hno;have HF:Hid (mb=false):=by
        show _=_;rw[←HMB.out];unfold mayM;rw[HKM.out];simp[HEF.out]
       go_upto_region 13 with fail
       refine rNh (fun W=>W.cell? ⟨w.heap.size,1,none⟩=some (.int .i64 o.obj.1)∧W.cell? ⟨w.heap.size,2,none⟩=some (.int .i64 o.obj.2)) (⟨c1,c2⟩) (fun hHeld=>?_);refine tk 0 rfl ?_;refine tk 1 rfl ?_;refine tk 2 rfl ?_;refine sk 3 rfl ?_;refine sk 4 rfl ?_;refine sk 5 rfl ?_;refine sk 6 rfl ?_;refine sk 7 rfl ?_;refine sk 8 rfl ?_;refine sk 9 rfl ?_;refine tk 10 rfl ?_;refine tk 11 rfl ?_;refine sk 12 rfl ?_;refine sk 13 rfl ?_;refine sk 14 rfl ?_;refine sk 15 rfl ?_;refine sk 16 rfl ?_;refine sk 17 rfl ?_;refine sk 18 rfl ?_;refine sk 19 rfl ?_;refine sk 20 rfl ?_;refine sk 21 rfl ?_;refine tk 22 rfl ?_;refine wDn ?_;clear hHeld c1 c2;go_wp2;go_ret;exact⟨by rw[HF.out];rfl,HD5.out.2⟩
      ·obtain⟨hkl,p,hp⟩:k<l.length∧∃p,(keM l)[k].1=p:=⟨by rw[keM_len] at hk;exact hk,_,rfl⟩
       rw[hp] at hsm;obtain⟨kb,ko,rfl,hkb,hkn,hkc⟩:=kn_cells HV.out.1 hkl;have hop:l[k].1.1=p:=by rw[keM_at] at hp;exact hp
       rw[hop] at hkc;have HKB:Hid (∀W,Below w.heap.size w W→∀j,j<15→W.cell? ⟨kb,ko+k*15+j,none⟩=(knCells p l[k].1.2 l[k].2)[j]?):=fun W hW j hj=>(hW.cell (p:=⟨kb,ko+k*15+j,none⟩) hkb).trans (hkc j hj);obtain⟨pi,hpi⟩:=gNz (p.ins:Bool);have x6:w5.cell? ⟨kb,ko+k*15+6,none⟩=some (.bool pi):=by rw[←hpi];exact HKB.out w5 HN5.out.2 6 (by omega)
       have x1:w5.cell? ⟨kb,ko+k*15+1,none⟩=some (.int .i64 p.obj.1):=HKB.out w5 HN5.out.2 1 (by omega);have x2:w5.cell? ⟨kb,ko+k*15+2,none⟩=some (.int .i64 p.obj.2):=HKB.out w5 HN5.out.2 2 (by omega);have gk:(k:Int)<kn:=by omega
       have gj:¬(k:Int)<0:=by omega
       have gz:(0:Int)≤k:=by omega
       have QE:=eqD p.obj o.obj;obtain⟨sb,hsb⟩:=gNz (samePr p.obj o.obj:Bool);rw[hsb] at QE;have HEV:Hid (elM o (lkK (keM l))=(pi&&sb)):=by
        show _=_;rw[HEL.out,hsm];simp only;rw[hpi,hsb]
       clear hk hke hsm hp hop hkb hkn hkc hkl hpi hsb HKB HEL;cases pi with
       | false=>
        have HF:Hid (mb=false):=by
         show _=_;rw[←HMB.out];unfold mayM;rw[HKM.out];simp[HEV.out]
        go_upto_region 13 with fail
        refine rNh (fun W=>W.cell? ⟨w.heap.size,1,none⟩=some (.int .i64 o.obj.1)∧W.cell? ⟨w.heap.size,2,none⟩=some (.int .i64 o.obj.2)∧W.cell? ⟨kb,ko+k*15+6,none⟩=some (.bool false)∧W.cell? ⟨kb,ko+k*15+1,none⟩=some (.int .i64 p.obj.1)∧W.cell? ⟨kb,ko+k*15+2,none⟩=some (.int .i64 p.obj.2)) (⟨c1,c2,x6,x1,x2⟩) (fun hHeld=>?_);refine tk 0 rfl ?_;refine tk 1 rfl ?_;refine tk 2 rfl ?_;refine tk 3 rfl ?_;refine tk 4 rfl ?_;refine tk 5 rfl ?_;refine tk 6 rfl ?_;refine tk 7 rfl ?_;refine tk 8 rfl ?_;refine tk 9 rfl ?_;refine tk 10 rfl ?_;refine tk 11 rfl ?_;refine sk 12 rfl ?_;refine sk 13 rfl ?_;refine sk 14 rfl ?_;refine sk 15 rfl ?_;refine sk 16 rfl ?_;refine sk 17 rfl ?_;refine sk 18 rfl ?_;refine sk 19 rfl ?_;refine sk 20 rfl ?_;refine sk 21 rfl ?_;refine tk 22 rfl ?_;refine wDn ?_;clear hHeld c1 c2 x6 x1 x2 QE;go_wp2;go_ret;exact⟨by rw[HF.out];rfl,HD5.out.2⟩
       | true=>
        cases sb with
        | false=>
         have HF:Hid (mb=false):=by
          show _=_;rw[←HMB.out];unfold mayM;rw[HKM.out];simp[HEV.out]
         go_upto_region 13 with fail
         refine rNh (fun W=>W.cell? ⟨w.heap.size,1,none⟩=some (.int .i64 o.obj.1)∧W.cell? ⟨w.heap.size,2,none⟩=some (.int .i64 o.obj.2)∧W.cell? ⟨kb,ko+k*15+6,none⟩=some (.bool true)∧W.cell? ⟨kb,ko+k*15+1,none⟩=some (.int .i64 p.obj.1)∧W.cell? ⟨kb,ko+k*15+2,none⟩=some (.int .i64 p.obj.2)) (⟨c1,c2,x6,x1,x2⟩) (fun hHeld=>?_);refine tk 0 rfl ?_;refine tk 1 rfl ?_;refine tk 2 rfl ?_;refine tk 3 rfl ?_;refine tk 4 rfl ?_;refine tk 5 rfl ?_;refine tk 6 rfl ?_;refine tk 7 rfl ?_;refine tk 8 rfl ?_;refine tk 9 rfl ?_;refine tk 10 rfl ?_;refine tk 11 rfl ?_;refine tk 12 rfl ?_;refine tk 13 rfl ?_;refine tk 14 rfl ?_;refine tk 15 rfl ?_;refine tk 16 rfl ?_;refine tk 17 rfl ?_;refine tk 18 rfl ?_;refine tk 19 rfl ?_;refine tk 20 rfl ?_;refine tk 21 rfl ?_;refine tk 22 rfl ?_;refine wDn ?_;clear hHeld c1 c2 x6 x1 x2 QE;go_wp2;go_ret;exact⟨by rw[HF.out];rfl,HD5.out.2⟩
        | true=>
         have HET:Hid (elM o (lkK (keM l))=true):=by
          show _=_;rw[HEV.out];rfl
         clear HEV;go_upto_region 13 with fail
         refine rNh (fun W=>W.cell? ⟨w.heap.size,1,none⟩=some (.int .i64 o.obj.1)∧W.cell? ⟨w.heap.size,2,none⟩=some (.int .i64 o.obj.2)∧W.cell? ⟨kb,ko+k*15+6,none⟩=some (.bool true)∧W.cell? ⟨kb,ko+k*15+1,none⟩=some (.int .i64 p.obj.1)∧W.cell? ⟨kb,ko+k*15+2,none⟩=some (.int .i64 p.obj.2)) (⟨c1,c2,x6,x1,x2⟩) (fun hHeld=>?_);refine tk 0 rfl ?_;refine tk 1 rfl ?_;refine tk 2 rfl ?_;refine tk 3 rfl ?_;refine tk 4 rfl ?_;refine tk 5 rfl ?_;refine tk 6 rfl ?_;refine tk 7 rfl ?_;refine tk 8 rfl ?_;refine tk 9 rfl ?_;refine tk 10 rfl ?_;refine tk 11 rfl ?_;refine tk 12 rfl ?_;refine tk 13 rfl ?_;refine tk 14 rfl ?_;refine tk 15 rfl ?_;refine tk 16 rfl ?_;refine tk 17 rfl ?_;refine tk 18 rfl ?_;refine tk 19 rfl ?_;refine tk 20 rfl ?_;refine tk 21 rfl ?_;refine tk 22 rfl ?_;refine wDn ?_;clear hHeld c1 c2 x6 x1 x2 QE;go_wp2_with fail;go_meet
         case rel=>exact⟨HET.out,HD5.out⟩
    case rest=>
     have HEL:Hid (elM o (lkK (keM l))=true):=hcut.out.1;have HN6:Hid (wc.heap[w.heap.size]?=some (.cells (opB o o.ins (.slice ra rn rc) y.1 y.2) 131)∧Below w.heap.size w wc):=hcut.out.2;clear hcut HEB HN4;generalize wc=w6 at *;have HALL:Hid (mayM o y (lkK (keM l))=o.preds.all (mayPred o y (lkK (keM l)))):=by
      show _=_;unfold mayM;rw[HKM.out];simp[HKY.out,HEL.out]
     clear HKM HKY HEL;obtain⟨HRN⟩:Nonempty (Hid (rn=o.preds.length∧o.preds.length≤8796093022208)):=⟨by obtain⟨a',c',e,_,h2,_⟩:=HV.out.2;exact⟨(Value.slice.inj e).2.1,h2⟩⟩
     go_wp2_with fail;go_loopw [9] (fun i wr=>∃m:Nat,m≤o.preds.length∧i=.int .i64 m∧Hid ((∀j (hj:j<o.preds.length),j<m→mayPred o y (lkK (keM l)) o.preds[j]=true)∧wr.heap[w.heap.size]?=some (.cells (opB o o.ins (.slice ra rn rc) y.1 y.2) 131)∧Below w.heap.size w wr)) (fun i _=>o.preds.length - (RowKit.intOf i).toNat)
     case atStart=>exact⟨0,Nat.zero_le _,rfl,fun j _ hj=>absurd hj (Nat.not_lt_zero _),HN6.out⟩
     case round=>
      obtain⟨m,hm,rfl,hR⟩:=hrel;clear HN6;obtain⟨-,-,-,-,-,-,-,-,-,-,-,-,c12,-⟩:=cLs hR.out.2.1;by_cases hlt:m<o.preds.length
      ·obtain⟨a',c',e9,_,_,_,h4⟩:=id HV.out.2;obtain⟨pb,po,ha',h5,h6⟩:=h4 (fun e=>by rw[e] at hlt;simp at hlt);have hra:ra=some ⟨pb,po,none⟩:=(Value.slice.inj e9).1.trans ha';have d12:wr.cell? ⟨w.heap.size,12,none⟩=some (.slice (some ⟨pb,po,none⟩) rn rc):=by rw[←hra];exact c12
       clear c12 e9 h4 ha' hra;obtain⟨a,ha⟩:=gNz (o.preds[m]:Pr);have y0:wr.cell? ⟨pb,po+m*2,none⟩=some (.int .i64 a.1):=by rw[hR.out.2.2.cell (p:=⟨pb,po+m*2,none⟩) h5,←ha];exact(h6 m hlt).1
       have y1:wr.cell? ⟨pb,po+m*2+1,none⟩=some (.int .i64 a.2):=by rw[hR.out.2.2.cell (p:=⟨pb,po+m*2+1,none⟩) h5,←ha];exact(h6 m hlt).2
       have HM:Hid (∃h:m<o.preds.length,o.preds[m]=a):=⟨hlt,ha⟩
       have g1:(m:Int)<rn:=by have:=HRN.out.1;omega
       have g3:(0:Int)≤m:=by omega
       have HR:Hid ((∀j (hj:j<o.preds.length),j<m→mayPred o y (lkK (keM l)) o.preds[j]=true)∧wr.heap[w.heap.size]?=some (.cells (opB o o.ins (.slice ra rn rc) y.1 y.2) 131)∧Below w.heap.size w wr):=hR;have HNO:Hid (∀b:Bool,mayPred o y (lkK (keM l)) a=false→mb=false):=fun _ h9=>by
        obtain⟨h,e⟩:=HM.out;rw[←HMB.out,HALL.out,List.all_eq_false];exact⟨a,by rw[←e];exact List.getElem_mem h,by rw[h9];decide⟩
       have E5:=rLook_any (.slice ka kn kc) l a wr (HV.out.1.below hR.out.2.2);unfold refV at E5;clear h5 h6 hlt hm ha hR;go_wp2_with fail;go_fit E5;rintro e w7 ⟨⟨x,rfl,hx⟩,b7⟩;clear E5 y0 y1 d12 g1 g3;have HN7:=hY2 (heap_below HR.out.2.1 b7 lRf) (HR.out.2.2.trans (b7.mono HR.out.2.2.size));clear b7;rcases hx with⟨rfl,hno⟩ | ⟨k,rfl,hk,hke,hsm⟩
       ·have HF:Hid (mb=false):=HNO.out true (by unfold mayPred;rw[hno]);clear hno;go_wp2;go_ret;exact⟨by rw[HF.out];rfl,HN7.out.2⟩
       ·obtain⟨hkl,p,hp⟩:k<l.length∧∃p,(keM l)[k].1=p:=⟨by rw[keM_len] at hk;exact hk,_,rfl⟩
        rw[hp] at hsm;obtain⟨kb,ko,rfl,hkb,hkn,hkc⟩:=kn_cells HV.out.1 hkl;have hop:l[k].1.1=p:=by rw[keM_at] at hp;exact hp
        rw[hop] at hkc;have hid:l[k].2=a:=by rw[keM_at] at hke;exact hke
        rw[hid] at hkc;obtain⟨qa,qn,qc,hqv⟩:∃a n c,l[k].1.2=.slice a n c:=by
         obtain⟨_,_,_,_,_,h9,_⟩:=HV.out.1;obtain⟨a9,c9,e9,_⟩:=h9 l[k] (List.getElem_mem hkl);exact⟨_,_,_,e9⟩
        rw[hqv] at hkc;have HKB:Hid (∀W,Below w.heap.size w W→∀j,j<15→W.cell? ⟨kb,ko+k*15+j,none⟩=(knCells p (.slice qa qn qc) a)[j]?):=fun W hW j hj=>(hW.cell (p:=⟨kb,ko+k*15+j,none⟩) hkb).trans (hkc j hj);have x0:w7.cell? ⟨kb,ko+k*15,none⟩=some (.int .i64 p.kind):=HKB.out w7 HN7.out.2 0 (by omega);have x1:w7.cell? ⟨kb,ko+k*15+1,none⟩=some (.int .i64 p.obj.1):=HKB.out w7 HN7.out.2 1 (by omega);have x2:w7.cell? ⟨kb,ko+k*15+2,none⟩=some (.int .i64 p.obj.2):=HKB.out w7 HN7.out.2 2 (by omega);have x3:w7.cell? ⟨kb,ko+k*15+3,none⟩=some (.string p.key):=HKB.out w7 HN7.out.2 3 (by omega);have x4:w7.cell? ⟨kb,ko+k*15+4,none⟩=some (.int .i64 p.elem.1):=HKB.out w7 HN7.out.2 4 (by omega);have x5:w7.cell? ⟨kb,ko+k*15+5,none⟩=some (.int .i64 p.elem.2):=HKB.out w7 HN7.out.2 5 (by omega);have x6:w7.cell? ⟨kb,ko+k*15+6,none⟩=some (.bool p.ins):=HKB.out w7 HN7.out.2 6 (by omega);have x7:w7.cell? ⟨kb,ko+k*15+7,none⟩=some (.int .i64 p.val.k):=HKB.out w7 HN7.out.2 7 (by omega);have x8:w7.cell? ⟨kb,ko+k*15+8,none⟩=some (.int .i64 p.val.n):=HKB.out w7 HN7.out.2 8 (by omega);have x9:w7.cell? ⟨kb,ko+k*15+9,none⟩=some (.string p.val.t):=HKB.out w7 HN7.out.2 9 (by omega);have x10:w7.cell? ⟨kb,ko+k*15+10,none⟩=some (.int .i64 p.val.o):=HKB.out w7 HN7.out.2 10 (by omega);have x11:w7.cell? ⟨kb,ko+k*15+11,none⟩=some (.int .i64 p.val.a):=HKB.out w7 HN7.out.2 11 (by omega);have x12:w7.cell? ⟨kb,ko+k*15+12,none⟩=some (.slice qa qn qc):=HKB.out w7 HN7.out.2 12 (by omega);have x13:w7.cell? ⟨kb,ko+k*15+13,none⟩=some (.int .i64 a.1):=HKB.out w7 HN7.out.2 13 (by omega);have x14:w7.cell? ⟨kb,ko+k*15+14,none⟩=some (.int .i64 a.2):=HKB.out w7 HN7.out.2 14 (by omega);have gk:(k:Int)<kn:=by omega
        have gj:¬(k:Int)<0:=by omega
        have HSM:Hid (lkK (keM l) a=some p):=hsm;clear hk hke hsm hp hop hid hqv hkb hkn hkc hkl;by_cases h2:2<p.kind
        ·have HF:Hid (mb=false):=HNO.out true (by unfold mayPred;rw[HSM.out];simp only;rw[if_pos h2]);go_wp2;go_ret;exact⟨by rw[HF.out];rfl,HN7.out.2⟩
        ·obtain⟨mp,hmp⟩:=gNz (mayPred o y (lkK (keM l)) a:Bool);obtain⟨lb,hlb⟩:=gNz (placeB p a o y:Bool);have HMP:=hY2 hmp ((by rw[←hmp];unfold mayPred;rw[HSM.out];simp only;rw[if_neg h2,hlb]):mp=(if lb=false then false else !(decide (o.kind=4)&&(!decide (p.kind=1) || !decide (p.val.k=4)))));have EP:=rPlace_any p o qa ra qn qc rn rc a y w7.drew;rw[hlb] at EP;clear hmp hlb;obtain⟨c0,c1,c2,c3,c4,c5,c6,c7,c8,c9,c10,c11,c12,c13,c14,-⟩:=cLs HN7.out.1;go_upto_region 21 with fail
         clear h2 gj;refine rNh (fun W=>W.cell? ⟨kb,ko+k*15,none⟩=some (.int .i64 p.kind)∧W.cell? ⟨kb,ko+k*15+1,none⟩=some (.int .i64 p.obj.1)∧W.cell? ⟨kb,ko+k*15+2,none⟩=some (.int .i64 p.obj.2)∧W.cell? ⟨kb,ko+k*15+3,none⟩=some (.string p.key)∧W.cell? ⟨kb,ko+k*15+4,none⟩=some (.int .i64 p.elem.1)∧W.cell? ⟨kb,ko+k*15+5,none⟩=some (.int .i64 p.elem.2)∧W.cell? ⟨kb,ko+k*15+6,none⟩=some (.bool p.ins)∧W.cell? ⟨kb,ko+k*15+7,none⟩=some (.int .i64 p.val.k)∧W.cell? ⟨kb,ko+k*15+8,none⟩=some (.int .i64 p.val.n)∧W.cell? ⟨kb,ko+k*15+9,none⟩=some (.string p.val.t)∧W.cell? ⟨kb,ko+k*15+10,none⟩=some (.int .i64 p.val.o)∧W.cell? ⟨kb,ko+k*15+11,none⟩=some (.int .i64 p.val.a)∧W.cell? ⟨kb,ko+k*15+12,none⟩=some (.slice qa qn qc)∧W.cell? ⟨kb,ko+k*15+13,none⟩=some (.int .i64 a.1)∧W.cell? ⟨kb,ko+k*15+14,none⟩=some (.int .i64 a.2)∧W.cell? ⟨w.heap.size,0,none⟩=some (.int .i64 o.kind)∧W.cell? ⟨w.heap.size,1,none⟩=some (.int .i64 o.obj.1)∧W.cell? ⟨w.heap.size,2,none⟩=some (.int .i64 o.obj.2)∧W.cell? ⟨w.heap.size,3,none⟩=some (.string o.key)∧W.cell? ⟨w.heap.size,4,none⟩=some (.int .i64 o.elem.1)∧W.cell? ⟨w.heap.size,5,none⟩=some (.int .i64 o.elem.2)∧W.cell? ⟨w.heap.size,6,none⟩=some (.bool o.ins)∧W.cell? ⟨w.heap.size,7,none⟩=some (.int .i64 o.val.k)∧W.cell? ⟨w.heap.size,8,none⟩=some (.int .i64 o.val.n)∧W.cell? ⟨w.heap.size,9,none⟩=some (.string o.val.t)∧W.cell? ⟨w.heap.size,10,none⟩=some (.int .i64 o.val.o)∧W.cell? ⟨w.heap.size,11,none⟩=some (.int .i64 o.val.a)∧W.cell? ⟨w.heap.size,12,none⟩=some (.slice ra rn rc)∧W.cell? ⟨w.heap.size,13,none⟩=some (.int .i64 y.1)∧W.cell? ⟨w.heap.size,14,none⟩=some (.int .i64 y.2)) (⟨x0,x1,x2,x3,x4,x5,x6,x7,x8,x9,x10,x11,x12,x13,x14,c0,c1,c2,c3,c4,c5,c6,c7,c8,c9,c10,c11,c12,c13,c14⟩) (fun hHeld=>?_);refine tk 0 rfl ?_;refine tk 1 rfl ?_;refine tk 2 rfl ?_;refine tk 3 rfl ?_;refine tk 4 rfl ?_;refine wpAnyH_ready (rs:=[5]) (by kernel_rfl) (by simp) (AllReadyH.cons (o:={dst:=some 125,op:=Op.call {callee:=Callee.value (Operand.func 131),args:=#[Operand.tmp 123,Operand.tmp 124],argTypes:=#[131,131]},type:=4,pos := "book.go:148",after:=#[aD 3,aD 4],guard:=none}) rfl (fun K hK=>?_) AllReadyH.nil);go_simp;go_at_call 131;refine Calls.mono EP ?_;rintro e w8 ⟨rfl,b8⟩;go_wp2_with fail;refine hK.out _ _ (keep30 (by assumption) b8) (fun hHeld5=>?_);clear hK K;try simp only[Act.put,nm]
         refine tk 6 rfl ?_;refine wDn ?_;clear hHeld hHeld5 EP x0 x1 x2 x3 x4 x5 x6 x7 x8 x9 x10 x11 x12 x13 x14 c0 c1 c2 c3 c4 c5 c6 c7 c8 c9 c10 c11 c12 c13 c14;have HN8:=hY2 (heap_below (show w7.drew.heap[w.heap.size]?=_ from HN7.out.1) b8 lRf:w8.heap[w.heap.size]?=some (.cells (opB o o.ins (.slice ra rn rc) y.1 y.2) 131)) ((drew_of HN7.out.2).trans (b8.mono (drew_of HN7.out.2).size));clear b8 HN7;have c0:w8.cell? ⟨w.heap.size,0,none⟩=some (.int .i64 o.kind):=cLo HN8.out.1 0;have x0:w8.cell? ⟨kb,ko+k*15,none⟩=some (.int .i64 p.kind):=HKB.out w8 HN8.out.2 0 (by omega);have x7:w8.cell? ⟨kb,ko+k*15+7,none⟩=some (.int .i64 p.val.k):=HKB.out w8 HN8.out.2 7 (by omega);go_upto_region 22 with fail
         go_cut [152] from 126 to 152 (fun z wx=>z=.bool (!mp)∧w8=wx)
         case first=>
          cases lb with
          | false=>
           obtain rfl:mp=false:=by rw[HMP.out.2];rfl
           clear HMP;go_wp2_with fail;go_meet
           case rel=>exact⟨rfl,rfl⟩
          | true=>
           by_cases h4:o.kind=4
           ·have j4:(o.kind==4)=true:=by rw[h4];rfl
            by_cases h1:p.kind=1
            ·have j1:(p.kind !=1)=false:=by rw[h1];rfl
             by_cases h7:p.val.k=4
             ·have j7:(p.val.k !=4)=false:=by rw[h7];rfl
              obtain rfl:mp=true:=by rw[HMP.out.2];simp[h1,h7]
              clear HMP;go_wp2_with fail;go_meet
              case rel=>exact⟨rfl,rfl⟩
             ·have j7:(p.val.k !=4)=true:=by simp[h7]
              obtain rfl:mp=false:=by rw[HMP.out.2];simp[h4,h7]
              clear HMP;go_wp2_with fail;go_meet
              case rel=>exact⟨rfl,rfl⟩
            ·have j1:(p.kind !=1)=true:=by simp[h1]
             obtain rfl:mp=false:=by rw[HMP.out.2];simp[h4,h1]
             clear HMP;go_wp2_with fail;go_meet
             case rel=>exact⟨rfl,rfl⟩
           ·have j4:(o.kind==4)=false:=by simp[h4]
            obtain rfl:mp=true:=by rw[HMP.out.2];simp[h4]
            clear HMP;go_wp2_with fail;go_meet
            case rel=>exact⟨rfl,rfl⟩
         case rest=>
          obtain⟨rfl,rfl⟩:=hcut;clear c0 x0 x7 gk;cases mp with
          | false=>
           have HF:Hid (mb=false):=HNO.out true HMP.out.1;go_wp2;go_ret;exact⟨by rw[HF.out];rfl,HN8.out.2⟩
          | true=>
           go_upto_region 17 with fail
           have gm:(m:Int)<8796093022208:=by obtain⟨h,_⟩:=HM.out;have:=HRN.out.2;omega
           go_wp2;go_roundw
           case rel=>
            obtain⟨h,e⟩:=HM.out;refine⟨m+1,h,by go_num,fun j hj hjm=>?_,HN8.out⟩;rcases Nat.lt_or_ge j m with h1 | h1
            ·exact HR.out.1 j hj h1
            ·obtain rfl:j=m:=by omega
             rw[e];exact HMP.out.1
           case measure=>obtain⟨h,_⟩:=HM.out;simp[RowKit.intOf];omega
      ·have hme:¬(m:Int)<rn:=by have:=HRN.out.1;omega
       have HF:Hid (mb=true):=by
        show _=_;rw[←HMB.out,HALL.out,List.all_eq_true];intro x hx;obtain⟨j,hj,rfl⟩:=List.getElem_of_mem hx;exact hR.out.1 j hj (by omega)
       have HB9:Hid (Below w.heap.size w wr):=hR.out.2.2;clear hlt hm hR;go_wp2;go_ret;exact⟨by rw[HF.out];rfl,HB9.out⟩
end Go.Proofs.YtamhlgflbacjgaaGreat
