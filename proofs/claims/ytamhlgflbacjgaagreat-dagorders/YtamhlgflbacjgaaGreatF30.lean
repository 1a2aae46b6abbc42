/-
  What is proved: as each theorem says.
  Conditions: as each theorem says.
-/
import Derived.Test.YtamhlgflbacjgaaGreatF00
import Derived.Test.YtamhlgflbacjgaaGreatF27
import Derived.Test.YtamhlgflbacjgaaGreatF29
import Derived.Test.YtamhlgflbacjgaaGreatF19
import Derived.Test.YtamhlgflbacjgaaGreatF12
import Derived.Test.YtamhlgflbacjgaaGreatF25
import Derived.Test.YtamhlgflbacjgaaGreatF26
set_option maxRecDepth 100000
set_option maxHeartbeats 16000000
namespace Go.Proofs.YtamhlgflbacjgaaGreat
open Go.RowKit Go.Sort
theorem rBehJ_any (M:Int) (l:List KE) (obj:Pr) (hk:KOk M (keM l)) (hl:l.length≤900000):∀(n:Nat) (el:Pr) (v:Value) (w:World),M≤el.1+n→IsKn w v l→
 Calls Tryz.prog 154 #[.agg #[v],.agg #[.int .i64 obj.1,.int .i64 obj.2],.agg #[.int .i64 el.1,.int .i64 el.2]] w fun e w'=>IdsP w (behM (keM l) obj n el) e w'
 | 0,el,v,w,hm,hv=>by
  have h0:kidsM (keM l) obj el=[]:=beh_last hk (by omega);have:=rBehind_step v l obj el w hv (fun _=>[]) (by rw[h0];simp) (fun k hkk=>by rw[h0] at hkk;cases hkk);rw[h0] at this;exact this
 | n+1,el,v,w,hm,hv=>by
  have hle:=beh_len hk obj (n+1) el;rw[keM_len] at hle;exact rBehind_step v l obj el w hv (behM (keM l) obj n) (Nat.le_trans hle hl) (fun k hkk W hW=>rBehJ_any M l obj hk hl n k v W (by have:=(kid_lt hk hkk).1;omega) (hv.below hW))
theorem rElements_any (M:Int) (n:Nat) (v:Value) (l:List KE) (obj:Pr) (w:World) (hv:IsKn w v l) (hk:KOk M (keM l)) (hl:l.length≤900000) (hm:M≤n):
 Calls Tryz.prog 134 #[.agg #[v],.agg #[.int .i64 obj.1,.int .i64 obj.2]] w fun e w'=>IdsP w (behM (keM l) obj n (0,0)) e w':=by
 obtain⟨ka,kn,kc,rfl⟩:∃a n c,v=.slice a n c:=by obtain⟨a,c,e,_⟩:=hv;exact⟨_,_,_,e⟩
 obtain⟨q0,q1,q2⟩:=two_boxes w (.cells #[.slice ka kn kc] 102) (.cells #[.int .i64 obj.1,.int .i64 obj.2] 49);have HV:Hid (IsKn w (.slice ka kn kc) l):=hv;have E1:=fun(W:World) (hW:Below w.heap.size w W)=>rBehJ_any M l obj hk hl n (0,0) (.slice ka kn kc) W (by dsimp only;omega) (hv.below hW);have HE1:Hid (∀W,Below w.heap.size w W→Calls Tryz.prog 154 #[.agg #[.slice ka kn kc],.agg #[.int .i64 obj.1,.int .i64 obj.2],.agg #[.int .i64 0,.int .i64 0]] W fun e W'=>IdsP W (behM (keM l) obj n (0,0)) e W'):=E1
 clear hv hk hl hm E1;go_enter Tryz.func134,Tryz.ntmps134
 go_upto_region 1 with fail
 generalize (w.alloc (.cells #[.slice ka kn kc] 102)).alloc (.cells #[.int .i64 obj.1,.int .i64 obj.2] 49)=W0 at *;have c0:W0.cell? ⟨w.heap.size,0,none⟩=some (.slice ka kn kc):=cLo q0 0;obtain⟨c1,c2,-⟩:=cLs q1;have HQ:Hid (Below w.heap.size w W0):=q2;have E2:=HE1.out W0 q2;clear q0 q1 q2;go_wp2_with fail;go_fit E2;rintro e w1 ⟨u,rfl,hr,hb⟩;have HB:=hY2 (own_mono hr HQ.out.size) (HQ.out.trans (hb.mono HQ.out.size));clear hr hb E2;go_wp2;go_ret;exact⟨_,rfl,HB.out⟩
def seenM (K:List (OpM×Pr)) (obj:Pr) (l:List Pr):List Pr:=l.filter fun x=>decide (atM K K obj ⟨#[]⟩ x≠[])
theorem seen_len (K:List (OpM×Pr)) (obj:Pr) (l:List Pr):(seenM K obj l).length≤l.length:=List.length_filter_le _ _
theorem rSeen_any (M:Int) (n:Nat) (v:Value) (l:List KE) (obj:Pr) (w:World) (hv:IsKn w v l) (hk:KOk M (keM l)) (hl:l.length≤900000) (hm:M≤n):
 Calls Tryz.prog 92 #[.agg #[v],.agg #[.int .i64 obj.1,.int .i64 obj.2]] w fun e w'=>IdsP w (seenM (keM l) obj (behM (keM l) obj n (0,0))) e w':=by
 obtain⟨ka,kn,kc,rfl⟩:∃a n c,v=.slice a n c:=by obtain⟨a,c,e,_⟩:=hv;exact⟨_,_,_,e⟩
 obtain⟨q0,q1,q2⟩:=two_boxes w (.cells #[.slice ka kn kc] 102) (.cells #[.int .i64 obj.1,.int .i64 obj.2] 49);have HV:Hid (IsKn w (.slice ka kn kc) l):=hv;have E1:=fun(W:World) (hW:Below w.heap.size w W)=>rElements_any M n (.slice ka kn kc) l obj W (hv.below hW) hk hl hm;obtain⟨Q,hQ⟩:=gNz (behM (keM l) obj n (0,0));have HQL:Hid (Q.length≤900000):=by
  have h1:=beh_len hk obj n (0,0);rw[hQ,keM_len] at h1;exact Nat.le_trans h1 hl
 rw[hQ] at E1;rw[hQ];have HE1:Hid (∀W,Below w.heap.size w W→Calls Tryz.prog 134 #[.agg #[.slice ka kn kc],.agg #[.int .i64 obj.1,.int .i64 obj.2]] W fun e W'=>IdsP W Q e W'):=E1
 obtain⟨post,hpost⟩:∃post:Ending→World→Prop,post=fun e w'=>IdsP w (seenM (keM l) obj Q) e w':=⟨_,rfl⟩
 have HPO:Hid (post=fun e w'=>IdsP w (seenM (keM l) obj Q) e w'):=hpost;rw[←hpost];clear hv hk hl hm E1 hQ hpost;go_enter Tryz.func92,Tryz.ntmps92
 go_upto_region 1 with fail
 generalize (w.alloc (.cells #[.slice ka kn kc] 102)).alloc (.cells #[.int .i64 obj.1,.int .i64 obj.2] 49)=W0 at *;have c0:W0.cell? ⟨w.heap.size,0,none⟩=some (.slice ka kn kc):=cLo q0 0;obtain⟨c1,c2,-⟩:=cLs q1;have HQ:Hid (JB w (.slice ka kn kc) obj W0):=⟨q0,q1,q2⟩
 have E2:=HE1.out W0 q2;clear q0 q1 q2;go_wp2_with fail;go_fit E2;rintro e w1 ⟨u,rfl,hr,hb⟩;obtain⟨a2,c2',hu⟩:=own_form hr;obtain⟨rn,hrn⟩:=gNz (Q.length);rw[hrn] at hu;subst hu;have HB:=hY3 hrn.symm (own_mono hr HQ.out.2.2.size) (HQ.out.next hb);clear hr hb E2 hrn c0 c1 c2;go_wp2_with fail;go_loopw [6,7] (fun oo i wx=>∃(m on:Nat) (a3:Option Addr) (c3:Nat),m≤rn∧i=.int .i64 (m:Int)∧oo=.slice a3 on c3∧Hid (on=(seenM (keM l) obj (Q.take m)).length∧OwnI w1.heap.size (.slice a3 on c3) (seenM (keM l) obj (Q.take m)) wx∧Below w1.heap.size w1 wx)) (fun _ i _=>rn - (RowKit.intOf i).toNat)
 case atStart=>exact⟨0,0,none,0,Nat.zero_le _,rfl,rfl,by simp[seenM],World.ownsRow_nil _ _ _ _,Below.refl _ _⟩
 case round=>
  obtain⟨m,on,a3,c3,hm,rfl,rfl,HM⟩:=hrel;by_cases hml:m<rn
  ·have hmQ:m<Q.length:=by have:=HB.out.1;omega
   obtain⟨y,hy⟩:=gNz (Q[m]:Pr);obtain⟨b2,rfl,hb2,j0,j1⟩:=own_id HB.out.2.1 hmQ hy;have HCL:Hid (∀W,Below w1.heap.size w1 W→W.cell? ⟨w.heap.size,0,none⟩=some (.slice ka kn kc)∧W.cell? ⟨w.heap.size+1,0,none⟩=some (.int .i64 obj.1)∧W.cell? ⟨w.heap.size+1,1,none⟩=some (.int .i64 obj.2)∧W.cell? ⟨b2,m*2,none⟩=some (.int .i64 y.1)∧W.cell? ⟨b2,m*2+1,none⟩=some (.int .i64 y.2)):=fun W hW=>⟨cLo (HB.out.2.2.next hW).1 0,cLo (HB.out.2.2.next hW).2.1 0,cLo (HB.out.2.2.next hW).2.1 1,(hW.cell (p:=⟨b2,m*2,none⟩) hb2).trans j0,(hW.cell (p:=⟨b2,m*2+1,none⟩) hb2).trans j1⟩
   have HTK:Hid (seenM (keM l) obj (Q.take (m+1))=seenM (keM l) obj (Q.take m)++if atM (keM l) (keM l) obj ⟨#[]⟩ y≠[] then [y] else []):=by
    show _=_;rw[List.take_add_one,List.getElem?_eq_getElem hmQ,hy];unfold seenM;rw[List.filter_append,Option.toList_some,List.filter_cons,List.filter_nil];by_cases h:atM (keM l) (keM l) obj ⟨#[]⟩ y≠[]
    ·rw[if_pos (by simpa using h),if_pos h]
    ·rw[if_neg (by simpa using h),if_neg h]
   have HLL:Hid ((seenM (keM l) obj (Q.take m)).length≤900000):=by
    have h1:=seen_len (keM l) obj (Q.take m);rw[List.length_take] at h1;have:=HQL.out;show _≤_;omega
   have HWW:Hid (∀W,Below w1.heap.size w1 W→Below w.heap.size w W):=fun W hW=>(HB.out.2.2.next hW).2.2;have i1:(m:Int)<rn:=by omega
   have i2:(0:Int)≤m:=by omega
   have HI3:Hid ((m:Int)<1000001):=by have:=HQL.out;have:=HB.out.1;show _<_;omega
   have HI:=hY2 i1 i2;have HML:Hid (m<rn):=hml;clear hml hm hmQ hy hb2 j0 j1;go_upto_region 6 with fail
   refine rNh (fun W=>Below w1.heap.size w1 W) (drew_of HM.out.2.2) (fun hHeld=>?_);have rD:OwnI w1.heap.size (.slice a3 on c3) (seenM (keM l) obj (Q.take m)) wr.drew:=HM.out.2.1;have EA:=rAt_any (.slice ka kn kc) l obj ⟨#[]⟩ y wr.drew (HV.out.below (HWW.out _ hHeld));refine tkC 0 HCL rfl ?_;refine tkC 1 HCL rfl ?_;refine tkC 2 HCL rfl ?_;refine tkC 3 HCL rfl ?_;refine tkC 4 HCL rfl ?_;refine tkC 5 HCL rfl ?_;refine ts 6 rfl (fun K hK=>?_);go_simp;go_at_call 91
   refine EA.mono ?_;rintro e w5 ⟨va,na,rfl,hrr,hb5⟩;go_wp2_with fail;refine hK.out _ _ (hHeld.trans (hb5.mono hHeld.size)) (fun hH5=>?_);clear hK K EA;try simp only[Act.put,nm]
   obtain⟨A,hA⟩:=gNz (atM (keM l) (keM l) obj ⟨#[]⟩ y);have HA:Hid (atM (keM l) (keM l) obj ⟨#[]⟩ y=A):=hA;rw[hA] at hrr;obtain⟨a5,c5,e5⟩:=own_form hrr.1;obtain⟨a6,c6,e6⟩:=own_form hrr.2;obtain⟨an,han⟩:=gNz (A.length);rw[han] at e5 e6;subst e5 e6;have HAN:Hid (A.length=an):=han;have HRD:=hY2 (own_below rD hb5 lRf) hH5;refine tk 7 rfl ?_;refine tk 8 rfl ?_;refine tk 9 rfl ?_;refine tk 10 rfl ?_;refine tk 11 rfl ?_;refine wDn ?_;clear hHeld hH5 rD hb5 hrr hA han HM i1 i2;by_cases h0:0<an
   ·have hd:decide (0<an)=true:=decide_eq_true h0;have HT2:Hid (seenM (keM l) obj (Q.take (m+1))=seenM (keM l) obj (Q.take m)++[y]):=by
     show _=_;rw[HTK.out,HA.out,if_pos (fun e=>by have:=HAN.out;rw[e] at this;simp at this;omega)]
    obtain⟨O,hO⟩:=gNz (seenM (keM l) obj (Q.take m));rw[hO] at HRD HT2 HLL;have hA:=heap_alloc_new w5 (.cells #[.int .i64 y.1,.int .i64 y.2] 49);have bA:Below w5.heap.size w5 (w5.alloc (.cells #[.int .i64 y.1,.int .i64 y.2] 49)):=bAl _ _;have hon:on=O.length:=by
     obtain⟨a,c,e⟩:=own_form HRD.out.1;exact(Value.slice.inj e).2.1
    have rA:=own_below HRD.out.1 bA lRf;obtain⟨v2,W2,q2,r2,g2,_⟩:=app_gen ofIds 50 _ w1.heap.size (Nat.le_trans HRD.out.2.size bA.size) (.slice a3 on c3) (.slice (some ⟨w5.heap.size,0,none⟩) 1 1) _ 1 _ [.int .i64 y.1,.int .i64 y.2] rA (UAt.box (k:=2) hA rfl) rfl (idc_one [y]) (by have:=HLL.out;omega);have b2':Below w1.heap.size w1 W2:=(HRD.out.2.trans (bA.mono HRD.out.2.size)).grown g2 (Nat.le_trans HRD.out.2.size bA.size) (fun t e=>(rA.lt t e).1);have r2':OwnI w1.heap.size v2 (seenM (keM l) obj (Q.take (m+1))) W2:=by
     show World.ownsRow _ _ _ _ _ _ _;rw[HT2.out,idc_app,List.length_append];exact r2
    obtain⟨a7,c7,e7⟩:=own_form r2';obtain⟨n7,hn7⟩:=gNz ((seenM (keM l) obj (Q.take (m+1))).length);rw[hn7] at e7;subst e7;have HN7:=hY3 hn7.symm r2' b2';have x0:=(HCL.out w5 HRD.out.2).2.2.2.1;have x1:=(HCL.out w5 HRD.out.2).2.2.2.2;have i1:=HI.out.1;have i2:=HI.out.2;clear hO hA bA hon hd rA r2 g2 b2' r2' hn7;go_upto_region 5 with(first | (at_builtin;refine wp_app rfl _ _ 50 rfl _ _ _ rfl rfl q2 ?_))
    clear q2 x0 x1 i1 i2;have i3:=HI3.out;go_wp2;go_roundw
    case rel=>exact⟨m+1,n7,a7,c7,HML.out,by go_num,rfl,HN7.out⟩
    case measure=>have:=HML.out;simp[RowKit.intOf];omega
   ·have hd:decide (0<an)=false:=decide_eq_false h0;have HT2:Hid (on=(seenM (keM l) obj (Q.take (m+1))).length∧OwnI w1.heap.size (.slice a3 on c3) (seenM (keM l) obj (Q.take (m+1))) w5∧Below w1.heap.size w1 w5):=by
     rw[HTK.out,HA.out,if_neg (fun h=>h (List.length_eq_zero_iff.1 (by have:=HAN.out;omega))),List.append_nil];obtain⟨a,c,e⟩:=own_form HRD.out.1;exact⟨(Value.slice.inj e).2.1,HRD.out⟩
    clear hd;go_upto_region 5 with fail
    have i3:=HI3.out;go_wp2;go_roundw
    case rel=>exact⟨m+1,on,a3,c3,HML.out,by go_num,rfl,HT2.out⟩
    case measure=>have:=HML.out;simp[RowKit.intOf];omega
  ·have i1:¬(m:Int)<rn:=by omega
   have hall:Q.take m=Q:=List.take_of_length_le (by have:=HB.out.1;omega);have HEND:Hid (post (.returned (.slice a3 on c3)) wr):=by
    show post _ _;rw[HPO.out];have h1:=HM.out;rw[hall] at h1;exact⟨_,rfl,own_mono h1.2.1 HB.out.2.2.2.2.size,(HB.out.2.2.next h1.2.2).2.2⟩
   clear hml hm hall;go_wp2;exact HEND.out
def IndexP (w:World) (l:List KE) (ix more:Int) (e:Ending) (w':World):Prop:=
 ∃u x,e=.returned (.tuple #[u,.int .i64 x])∧Below w.heap.size w w'∧(x=0→∃Q,OwnI w.heap.size u Q w'∧0≤ix∧ix<(Q.length:Int)+more∧Q.length≤900000∧∀y∈Q,y∈(keM l).map (·.2))
theorem rIndex_any (M:Int) (n:Nat) (v:Value) (l:List KE) (obj:Pr) (ix more:Int) (w:World) (hv:IsKn w v l) (hk:KOk M (keM l)) (hl:l.length≤900000) (hm:M≤n) (hmo:0≤more∧more≤1):
 Calls Tryz.prog 59 #[.agg #[v],.agg #[.int .i64 obj.1,.int .i64 obj.2],.int .i64 ix,.int .i64 more] w fun e w'=>IndexP w l ix more e w':=by
 obtain⟨ka,kn,kc,rfl⟩:∃a n c,v=.slice a n c:=by obtain⟨a,c,e,_⟩:=hv;exact⟨_,_,_,e⟩
 obtain⟨q0,q1,q2⟩:=two_boxes w (.cells #[.slice ka kn kc] 102) (.cells #[.int .i64 obj.1,.int .i64 obj.2] 49);have HV:Hid (IsKn w (.slice ka kn kc) l∧0≤more∧more≤1):=⟨hv,hmo⟩
 have E1:=fun(W:World) (hW:Below w.heap.size w W)=>rSeen_any M n (.slice ka kn kc) l obj W (hv.below hW) hk hl hm;obtain⟨Q,hQ⟩:=gNz (seenM (keM l) obj (behM (keM l) obj n (0,0)));have HQI:Hid (Q.length≤900000∧∀y∈Q,y∈(keM l).map (·.2)):=by
  rw[←hQ];refine⟨?_,fun y hy=>beh_in obj n (0,0) y (List.mem_filter.1 hy).1⟩;have h1:=seen_len (keM l) obj (behM (keM l) obj n (0,0));have h2:=beh_len hk obj n (0,0);rw[keM_len] at h2;omega
 rw[hQ] at E1;have HSE:Hid (∀W,Below w.heap.size w W→Calls Tryz.prog 92 #[.agg #[.slice ka kn kc],.agg #[.int .i64 obj.1,.int .i64 obj.2]] W fun e W'=>IdsP W Q e W'):=E1
 obtain⟨post,hpost⟩:∃post:Ending→World→Prop,post=fun e w'=>IndexP w l ix more e w':=⟨_,rfl⟩
 have HPO:Hid (post=fun e w'=>IndexP w l ix more e w'):=hpost;rw[←hpost];clear hv hk hl hm E1 hQ hpost hmo;go_enter Tryz.func59,Tryz.ntmps59
 go_upto_region 1 with fail
 generalize (w.alloc (.cells #[.slice ka kn kc] 102)).alloc (.cells #[.int .i64 obj.1,.int .i64 obj.2] 49)=W0 at *;have c0:W0.cell? ⟨w.heap.size,0,none⟩=some (.slice ka kn kc):=cLo q0 0;obtain⟨c1,c2,-⟩:=cLs q1;have HQ:Hid (JB w (.slice ka kn kc) obj W0):=⟨q0,q1,q2⟩
 have E1:=rKind_any (.slice ka kn kc) l obj W0 (HV.out.1.below q2);obtain⟨zk,hzk⟩:=gNz (kindJ (lkK (keM l)) obj:Int);rw[hzk] at E1;clear hzk q0 q1 q2;go_wp2_with fail;go_fit E1;rintro e w1 ⟨rfl,b1⟩;have HQ1:Hid (JB w (.slice ka kn kc) obj w1):=HQ.out.next b1;have HBAD:Hid (∀W x,x≠0→Below w.heap.size w W→post (.returned (.tuple #[.slice none 0 0,.int .i64 x])) W):=fun W x hx hW=>by
  rw[HPO.out];exact⟨_,_,rfl,hW,fun e=>absurd e hx⟩
 clear b1 E1 c0 c1 c2 HQ;by_cases h0:zk=0
 ·subst h0;have HEND:=HBAD.out w1 6 (by decide) HQ1.out.2.2;have HE:Hid (post (.returned (.tuple #[.slice none 0 0,.int .i64 6])) w1):=HEND;clear HEND;go_wp2;exact HE.out
 ·have d0:(zk==0)=false:=by simpa using h0
  clear h0;by_cases h6:zk=6
  ·subst h6;have c0:w1.cell? ⟨w.heap.size,0,none⟩=some (.slice ka kn kc):=cLo HQ1.out.1 0;obtain⟨c1,c2,-⟩:=cLs HQ1.out.2.1;have E2:=HSE.out w1 HQ1.out.2.2;clear d0;go_wp2_with fail;go_fit E2;rintro e w2 ⟨u,rfl,hr,hb⟩;have hr2:=own_mono hr HQ1.out.2.2.size;obtain⟨a2,c2',hu⟩:=own_form hr2;obtain⟨qn,hqn⟩:=gNz (Q.length);rw[hqn] at hu;subst hu;have HR2:=hY3 hqn hr2 (HQ1.out.2.2.trans (hb.mono HQ1.out.2.2.size));clear hr hr2 hb E2 c0 c1 c2 hqn;obtain⟨sm,hsm⟩:=gNz ((qn:Int)+more:Int);have hw:IntKind.i64.wrap ((qn:Int)+more)=sm:=by rw[IntWalk.i64_in _ (by have:=HQI.out.1;have:=HR2.out.1;have:=HV.out.2;omega)];exact hsm
   have HSM:Hid ((qn:Int)+more=sm):=hsm;have HE1:Hid (post (.returned (.tuple #[.slice none 0 0,.int .i64 1])) w2):=HBAD.out w2 1 (by decide) HR2.out.2.2;clear hsm;by_cases ha:ix<0
   ·have hd:decide (ix<0)=true:=decide_eq_true ha;clear ha hw;go_wp2;exact HE1.out
   ·have hd:decide (ix<0)=false:=decide_eq_false ha;by_cases hb:ix<sm
    ·have HEND:Hid (post (.returned (.tuple #[.slice a2 qn c2',.int .i64 0])) w2):=by
      show post _ _;rw[HPO.out];exact⟨_,_,rfl,HR2.out.2.2,fun _=>⟨Q,HR2.out.2.1,by omega,by have:=HR2.out.1;have:=HSM.out;omega,HQI.out.1,HQI.out.2⟩⟩
     have hd2:decide (sm≤ix)=false:=decide_eq_false (by omega);clear ha hb;go_wp2;exact HEND.out
    ·have hd2:decide (sm≤ix)=true:=decide_eq_true (by omega);clear ha hb;go_wp2;exact HE1.out
  ·have d6:(zk !=6)=true:=by simpa using h6
   have HE:Hid (post (.returned (.tuple #[.slice none 0 0,.int .i64 10])) w1):=HBAD.out w1 10 (by decide) HQ1.out.2.2;clear h6;go_wp2;exact HE.out
theorem rKey_any (v:Value) (l:List KE) (obj:Pr) (key:ByteArray) (w:World) (hv:IsKn w v l):
 Calls Tryz.prog 57 #[.agg #[v],.agg #[.int .i64 obj.1,.int .i64 obj.2],.string key] w fun e w'=>(∃x,e=.returned (.int .i64 x))∧Below w.heap.size w w':=by
 obtain⟨ka,kn,kc,rfl⟩:∃a n c,v=.slice a n c:=by obtain⟨a,c,e,_⟩:=hv;exact⟨_,_,_,e⟩
 obtain⟨q0,q1,q2⟩:=two_boxes w (.cells #[.slice ka kn kc] 102) (.cells #[.int .i64 obj.1,.int .i64 obj.2] 49);have HV:Hid (IsKn w (.slice ka kn kc) l):=hv;obtain⟨post,hpost⟩:∃post:Ending→World→Prop,post=fun e w'=>(∃x,e=.returned (.int .i64 x))∧Below w.heap.size w w':=⟨_,rfl⟩
 have HPO:Hid (post=fun e w'=>(∃x,e=.returned (.int .i64 x))∧Below w.heap.size w w'):=hpost;rw[←hpost];clear hv hpost;go_enter Tryz.func57,Tryz.ntmps57
 go_upto_region 1 with fail
 generalize (w.alloc (.cells #[.slice ka kn kc] 102)).alloc (.cells #[.int .i64 obj.1,.int .i64 obj.2] 49)=W0 at *;have c0:W0.cell? ⟨w.heap.size,0,none⟩=some (.slice ka kn kc):=cLo q0 0;obtain⟨c1,c2,-⟩:=cLs q1;have HQ:Hid (Below w.heap.size w W0):=q2;have E1:=rKind_any (.slice ka kn kc) l obj W0 (HV.out.below q2);obtain⟨zk,hzk⟩:=gNz (kindJ (lkK (keM l)) obj:Int);rw[hzk] at E1;clear hzk q0 q1 q2;go_wp2_with fail;go_fit E1;rintro e w1 ⟨rfl,b1⟩;have HEND:Hid (∀x,post (.returned (.int .i64 x)) w1):=fun x=>by
  rw[HPO.out];exact⟨⟨_,rfl⟩,HQ.out.trans (b1.mono HQ.out.size)⟩
 clear b1 E1 c0 c1 c2 HQ;go_wp2;all_goals exact HEND.out _
def kst (f:CX→List OV) (l:List CX):List KE:=l.flatMap fun x=>kes x.c (f x)
theorem kst_snoc (f:CX→List OV) (l:List CX) (x:CX):kst f (l++[x])=kst f l++kes x.c (f x):=by unfold kst;simp
theorem kall_one (f:CX→List OV) (x:CX):kall f [x.c.ref] [x]=kes x.c (f x):=by unfold kall;simp
theorem kst_len (f:CX→List OV):∀(l:List CX),(∀x∈l,(f x).length≤40)→(kst f l).length≤40*l.length
 | [],_=>by simp[kst]
 | x::l,h=>by
  have ih:=kst_len f l (fun y hy=>h y (List.mem_cons_of_mem _ hy));have h0:=h x (List.mem_cons_self ..);unfold kst at ih ⊢;rw[List.flatMap_cons,List.length_append,kes_len,List.length_cons];omega
theorem ofO:OfSize 100 131 15:=⟨Tryz.underlying100,by decide,by kernel_rfl⟩
theorem chgs_one {w:World} {a:Option Addr} {n c:Nat} {l:List CX} (h:IsChgs w (.slice a n c) l) {k:Nat} {x:CX} (hk:l[k]?=some x):
 ∃b o,a=some ⟨b,o,none⟩∧b<w.heap.size∧n=l.length∧n≤c∧x.In w∧(∀j,j<5→w.cell? ⟨b,o+k*5+j,none⟩=x.cells[j]?)∧∀c',1≤c'→IsChgs w (.slice (some ⟨b,o+k*5,none⟩) 1 c') [x]:=by
 obtain⟨hl,he⟩:=List.getElem?_eq_some_iff.1 hk;obtain⟨a',c',e,h1,h2,h3,h4⟩:=h;obtain⟨rfl,rfl,rfl⟩:=Value.slice.inj e;obtain⟨b,o,rfl,h5,h6⟩:=h4 (fun e=>by rw[e] at hl;simp at hl);have hin:x.In w:=h3 x (List.mem_of_getElem? hk);have hc:∀j,j<5→w.cell? ⟨b,o+k*5+j,none⟩=x.cells[j]?:=fun j hj=>by rw[h6 k hl j hj,he]
 refine⟨b,o,rfl,h5,rfl,h1,hin,hc,fun c' h=>⟨_,c',rfl,h,by simp,fun y hy=>by rw[List.mem_singleton.1 hy];exact hin,fun _=>⟨b,o+k*5,rfl,h5,fun i hi j hj=>?_⟩⟩⟩;have:i=0:=by simp at hi;exact hi
 subst this;rw[Nat.zero_mul,Nat.add_zero];exact hc j hj
theorem keep5 {W W':World} {p0 p1 p2 p3 p4:Addr} {v0 v1 v2 v3 v4:Value} (h:W.cell? p0=some v0∧W.cell? p1=some v1∧W.cell? p2=some v2∧W.cell? p3=some v3∧W.cell? p4=some v4) (hb:Below W.heap.size W W'):W'.cell? p0=some v0∧W'.cell? p1=some v1∧W'.cell? p2=some v2∧W'.cell? p3=some v3∧W'.cell? p4=some v4:=by
 obtain⟨h0,h1,h2,h3,h4⟩:=h;exact⟨(hb.cell (cell_in h0)).trans h0,(hb.cell (cell_in h1)).trans h1,(hb.cell (cell_in h2)).trans h2,(hb.cell (cell_in h3)).trans h3,(hb.cell (cell_in h4)).trans h4⟩
def StateP (w:World) (K:List KE) (e:Ending) (w':World):Prop:=∃u,e=.returned (.agg #[u])∧RowK w.heap.size u K w'∧Below w.heap.size w w'
theorem rState_any (v vm:Value) (l:List CX) (f:CX→List OV) (lm:List KE) (w:World) (hv:IsChgs w v l) (hf:∀x∈l,IsOps w x.uo (f x)∧(f x).map (·.1)=x.c.ops) (hsm:∀x∈l,SmallC x.c) (hm:UAt w vm lm.length (kcells lm)) (hmo:∀y∈kcells lm,y.oneCell'=true) (hfo:∀x∈l,∀y∈kcells (kes x.c (f x)),y.oneCell'=true) (hl:l.length≤1000) (hlm:lm.length≤1000):
 Calls Tryz.prog 88 #[v,vm] w fun e w'=>StateP w (kst f l++lm) e w':=by
 obtain⟨la,ln,lc,rfl⟩:∃a n c,v=.slice a n c:=by obtain⟨a,c,e,_⟩:=hv;exact⟨_,_,_,e⟩
 have hln:ln=l.length:=by obtain⟨_,_,e,_⟩:=hv;exact(Value.slice.inj e).2.1
 have H40:Hid (∀x∈l,(f x).length≤40):=fun x hx=>by
  have h1:=congrArg List.length (hf x hx).2;rw[List.length_map] at h1;have:=(hsm x hx).2.2;omega
 have HV:=hY6 hv hf hsm hm hmo hfo;have HLN:=hY3 hln hl hlm;have hx0:=heap_alloc_new w (.cells #[.slice none 0 0] 102);have hb0:Below w.heap.size w (w.alloc (.cells #[.slice none 0 0] 102)):=bAl _ _;obtain⟨post,hpost⟩:∃post:Ending→World→Prop,post=fun e w'=>StateP w (kst f l++lm) e w':=⟨_,rfl⟩
 have HPO:Hid (post=fun e w'=>StateP w (kst f l++lm) e w'):=hpost;rw[←hpost];clear hv hf hsm hm hmo hfo hl hlm hln hpost;go_enter Tryz.func88,Tryz.ntmps88
 go_upto_region 1 with fail
 have HW0:=hY2 hx0 hb0;generalize w.alloc (.cells #[.slice none 0 0] 102)=W0 at *;clear hx0 hb0;go_wp2_with fail;go_loopw [5,6] (fun o i wr=>∃(k:Nat) (a:Option Addr) (n c:Nat),k≤ln∧i=.int .i64 (k:Int)∧o=.slice a n c∧Hid (n=(kst f (l.take k)).length∧RowK w.heap.size (.slice a n c) (kst f (l.take k)) wr∧Below w.heap.size w wr∧wr.heap[w.heap.size]?=some (.cells #[.slice none 0 0] 102))) (fun _ i _=>ln - (RowKit.intOf i).toNat)
 case atStart=>exact⟨0,none,0,0,Nat.zero_le _,rfl,rfl,by simp[kst],by show World.ownsRow _ _ _ _ _ _ _;simp only[kst,List.take_zero,List.flatMap_nil,List.length_nil];exact World.ownsRow_nil _ _ _ _,HW0.out.2,HW0.out.1⟩
 case round=>
  obtain⟨k,oa,on,oc,hk,rfl,rfl,HR⟩:=hrel;by_cases hlt:k<ln
  ·obtain⟨x,hx⟩:∃x,l[k]?=some x:=⟨_,List.getElem?_eq_getElem (by have:=HLN.out.1;omega)⟩
   have hxl:x∈l:=List.mem_of_getElem? hx;obtain⟨b,off,rfl,hbl,hlq,hnc,hin,hc,hone⟩:=chgs_one HV.out.1 hx;clear hlq;have HFX:=HV.out.2.1 _ hxl;have HSX:=HV.out.2.2.1 _ hxl;have HOX:=HV.out.2.2.2.2.2 _ hxl;obtain⟨xc,ud,uo⟩:=x;obtain⟨ud',uo',lo,e,i1,i2,i3,⟨da,dc,hda,_⟩,⟨ya,yc,hya,_⟩,_⟩:=id hin;simp only[CX.val,Value.agg.injEq,Array.mk.injEq,List.cons.injEq,and_true,true_and] at e;obtain⟨rfl,rfl⟩:=e;dsimp only at hda hya;subst hda hya;obtain⟨dn,hdn⟩:=gNz (xc.deps.length);obtain⟨yn,hyn⟩:=gNz (lo.length);rw[hdn,hyn] at hone hc hx HFX hin HOX;have HONE:Hid (∀c',1≤c'→IsChgs w (.slice (some ⟨b,off+k*5,none⟩) 1 c') [⟨xc,.slice da dn dc,.slice ya yn yc⟩]):=hone;have HX:=hY6 hx HFX HSX HOX i1 i2;have HCS:Hid (∀W,Below w.heap.size w W→∀j,j<5→W.cell? ⟨b,off+k*5+j,none⟩=([.int .i64 xc.actor,.int .i64 xc.seq,.int .i64 xc.start,.slice da dn dc,.slice ya yn yc]:List Value)[j]?):=fun W hW j hj=>(hW.cell (p:=⟨b,off+k*5+j,none⟩) hbl).trans (hc j hj);have z0:=HCS.out wr HR.out.2.2.1 0 (by omega);have z1:=HCS.out wr HR.out.2.2.1 1 (by omega);have z2:=HCS.out wr HR.out.2.2.1 2 (by omega);have z3:=HCS.out wr HR.out.2.2.1 3 (by omega);have z4:=HCS.out wr HR.out.2.2.1 4 (by omega);simp only[List.getElem?_cons_zero,List.getElem?_cons_succ,Nat.add_zero] at z0 z1 z2 z3 z4;have g1:(k:Int)<ln:=by omega
   have g2:(k:Int)<1000:=by have:=HLN.out;omega
   have g3:(0:Int)≤k:=by omega
   obtain⟨j,hj⟩:=gNz (k+1:Nat);have HJ:Hid (k+1=j):=hj;have g4:(j:Int)≤lc:=by omega
   have g5:(0:Int)≤j:=by omega
   have g6:k≤j:=by omega
   have g7:¬lc=k:=by omega
   have g8:j - k=1:=by omega
   have g9:1≤lc - k:=by omega
   have HG9:Hid (1≤lc - k):=g9;have hw1:IntKind.i64.wrap ((k:Int)+1)=(j:Int):=by rw[IntWalk.i64_in _ (by omega)];omega
   clear hj g9;have HK:Hid (k<ln):=hlt;clear hk hlt hxl hc hin hone HFX HSX HOX i1 i2 i3 hdn hyn hx hnc hbl;go_upto_region 5 with fail
   refine rNh (fun W=>W.cell? ⟨b,off+k*5,none⟩=some (.int .i64 xc.actor)∧W.cell? ⟨b,off+k*5+1,none⟩=some (.int .i64 xc.seq)∧W.cell? ⟨b,off+k*5+2,none⟩=some (.int .i64 xc.start)∧W.cell? ⟨b,off+k*5+3,none⟩=some (.slice da dn dc)∧W.cell? ⟨b,off+k*5+4,none⟩=some (.slice ya yn yc)) (⟨z0,z1,z2,z3,z4⟩) (fun hHeld=>?_);have hB0:Below wr.heap.size wr wr.drew:=(Below.refl _ _).drew;refine tk 0 rfl ?_ (by intro wz hSw;obtain⟨y0,y1,y2,y3,y4⟩:=hSw;go_simp;try with_reducible rfl);refine tk 1 rfl ?_ (by intro wz hSw;obtain⟨y0,y1,y2,y3,y4⟩:=hSw;go_simp;try with_reducible rfl);refine tk 2 rfl ?_ (by intro wz hSw;obtain⟨y0,y1,y2,y3,y4⟩:=hSw;go_simp;try with_reducible rfl);refine tk 3 rfl ?_ (by intro wz hSw;obtain⟨y0,y1,y2,y3,y4⟩:=hSw;go_simp;try with_reducible rfl);refine tk 4 rfl ?_ (by intro wz hSw;obtain⟨y0,y1,y2,y3,y4⟩:=hSw;go_simp;try with_reducible rfl);refine tk 5 rfl ?_ (by intro wz hSw;obtain⟨y0,y1,y2,y3,y4⟩:=hSw;go_simp;try with_reducible rfl);refine tk 6 rfl ?_ (by intro wz hSw;obtain⟨y0,y1,y2,y3,y4⟩:=hSw;go_simp;try with_reducible rfl);refine tk 7 rfl ?_ (by intro wz hSw;obtain⟨y0,y1,y2,y3,y4⟩:=hSw;go_simp;try with_reducible rfl);refine tk 8 rfl ?_ (by intro wz hSw;obtain⟨y0,y1,y2,y3,y4⟩:=hSw;go_simp;try with_reducible rfl);refine tk 9 rfl ?_ (by intro wz hSw;obtain⟨y0,y1,y2,y3,y4⟩:=hSw;go_simp;try with_reducible rfl);refine ts 10 rfl (fun K hK=>?_);go_simp;go_at_call 50;refine(rRefC_any _ _ _ _ _ _ _ _ _ _).mono ?_;rintro e w1 ⟨rfl,hb1⟩;go_wp2_with fail;refine hK.out _ _ (keep5 hHeld hb1) (fun hH1=>?_);clear hK K;try simp only[Act.put,nm]
   have bA:Below w1.heap.size w1 (w1.alloc (.cells #[.int .i64 xc.actor,.int .i64 xc.seq] 45)):=bAl _ _;have hxA:=heap_alloc_new w1 (.cells #[.int .i64 xc.actor,.int .i64 xc.seq] 45);refine ts 11 rfl (fun K hK=>?_);go_simp;refine hK.out _ _ (keep5 hH1 bA) (fun hH2=>?_);clear hK K;try simp only[Act.put,nm]
   have hB1:Below wr.heap.size wr w1:=hB0.trans (hb1.mono hB0.size);have hB2:Below wr.heap.size wr (w1.alloc (.cells #[.int .i64 xc.actor,.int .i64 xc.seq] 45)):=hB1.trans (bA.mono hB1.size);clear hb1 bA;generalize w1.alloc (.cells #[.int .i64 xc.actor,.int .i64 xc.seq] 45)=w2 at *;clear hB1;generalize w1.heap.size=z at *;have hw2:Below w.heap.size w w2:=HR.out.2.2.1.trans (hB2.mono HR.out.2.2.1.size);have hzl:=lt_of_heap hxA;have OPS:=rOps_any (.slice (some ⟨b,off+k*5,none⟩) 1 (lc - k)) (.slice (some ⟨z,0,none⟩) 1 1) [⟨xc,.slice da dn dc,.slice ya yn yc⟩] [xc.ref] f w2 ((HONE.out _ HG9.out).below hw2) (fun y hy=>by rw[List.mem_singleton.1 hy];exact⟨HX.out.2.1.1.below hw2,HX.out.2.1.2⟩) (fun y hy=>by rw[List.mem_singleton.1 hy];exact HX.out.2.2.1) ⟨_,1,rfl,by simp,by simp,fun q hq=>by rw[List.mem_singleton.1 hq];exact⟨HX.out.2.2.2.2.1,HX.out.2.2.2.2.2⟩,fun _=>⟨z,0,rfl,hzl,fun i hi=>by
    have:i=0:=by simp at hi;exact hi
    subst this;exact⟨cLo hxA 0,cLo hxA 1⟩⟩⟩ (by simp)
   rw[kall_one f ⟨xc,.slice da dn dc,.slice ya yn yc⟩] at OPS;clear hzl hxA;refine ts 12 rfl (fun K hK=>?_);go_simp;go_at_call 97;refine OPS.mono ?_;rintro e w3 ⟨⟨u,rfl,hru⟩,hb3⟩;go_wp2_with fail;refine hK.out _ _ (keep5 hH2 hb3) (fun hH3=>?_);clear hK K OPS;try simp only[Act.put,nm]
   have hB3:Below wr.heap.size wr w3:=hB2.trans (hb3.mono hB2.size);have hw3:Below w.heap.size w w3:=hw2.trans (hb3.mono hw2.size);have hrow3:RowK w.heap.size (.slice oa on oc) (kst f (l.take k)) w3:=own_below HR.out.2.1 hB3 lRf;have hlen:(kst f (l.take k)).length+(kes xc (f ⟨xc,.slice da dn dc,.slice ya yn yc⟩)).length≤1000000:=by
    have h1:=kst_len f (l.take k) (fun y hy=>H40.out y (List.mem_of_mem_take hy));have h2:=H40.out _ (List.mem_of_getElem? HX.out.1);rw[kes_len,];rw[List.length_take] at h1;have:=HLN.out;omega
   obtain⟨v',w4,q1,q2,q3,q4⟩:=app_gen ofO 100 w3 w.heap.size hw3.size (.slice oa on oc) u _ _ _ _ hrow3 (own_at_u hru) (by rw[kcells_len]) HX.out.2.2.2.1 hlen;have hb4:Below w.heap.size w w4:=hw3.grown q3 hw3.size (fun t e=>(hrow3.lt t e).1);have hbox3:=heap_below HR.out.2.2.2 hB3 lRf;have hbox4:=box_grown0 hrow3 hbox3 (by decide) q3;have hsn:kst f (l.take k)++kes xc (f ⟨xc,.slice da dn dc,.slice ya yn yc⟩)=kst f (l.take (k+1)):=by
    rw[List.take_add_one,HX.out.1];simp only[Option.toList_some];rw[kst_snoc]
   have q2':RowK w.heap.size v' (kst f (l.take (k+1))) w4:=by
    show World.ownsRow _ _ _ _ _ _ _;rw[←hsn,List.length_append,kcells_append];exact q2
   obtain⟨a4,n4,c4,h4⟩:∃a n c,v'=.slice a n c:=by
    rcases q2'.2 with⟨h,_⟩ | ⟨_,_,_,h,_⟩
    ·exact⟨_,_,_,h⟩
    ·exact⟨_,_,_,h⟩
   have hn4:n4=(kst f (l.take (k+1))).length:=by
    rcases q2'.2 with⟨h,h0⟩ | ⟨_,_,_,h,_⟩
    ·rw[h] at h4;rw[h0];exact(Value.slice.inj h4).2.1.symm
    ·rw[h] at h4;exact(Value.slice.inj h4).2.1.symm
   subst h4;have y0:=HCS.out w4 hb4 0 (by omega);have y1:=HCS.out w4 hb4 1 (by omega);have y2:=HCS.out w4 hb4 2 (by omega);have y3:=HCS.out w4 hb4 3 (by omega);have y4:=HCS.out w4 hb4 4 (by omega);simp only[List.getElem?_cons_zero,List.getElem?_cons_succ,Nat.add_zero] at y0 y1 y2 y3 y4;have HNX:=hY4 hn4 q2' hb4 hbox4;clear q2 q2' q3 q4 hb4 hbox3 hbox4 hsn hn4 hrow3 hlen hru;refine ts 13 rfl (fun K hK=>?_);refine step_app rfl (.tmp 13) (.tmp 25) 100 rfl _ _ _ w4 (by simp[Act.eval]) (by simp[Act.eval]) q1 ?_;refine hK.out _ _ ⟨y0,y1,y2,y3,y4⟩ (fun hH4=>?_);clear hK K;try simp only[Act.put,nm]
   refine tk 14 rfl ?_;refine wDn ?_;clear hHeld hH1 hH2 hH3 hH4 y0 y1 y2 y3 y4 z0 z1 z2 z3 z4 q1 hB0 hB2 hB3 hb3 hw2 hw3 g4 g5 g6 g7 g8 hw1;go_wp2;go_roundw
   case rel=>exact⟨k+1,a4,n4,c4,HK.out,by go_num,rfl,HNX.out⟩
   case measure=>have:=HK.out;simp[RowKit.intOf];omega
  ·have g1:¬(k:Int)<ln:=by omega
   have hkl:k=l.length:=by have:=HLN.out;omega
   have hall:l.take k=l:=by rw[hkl,List.take_length]
   have HR2:Hid (on=(kst f l).length∧RowK w.heap.size (.slice oa on oc) (kst f l) wr∧Below w.heap.size w wr∧wr.heap[w.heap.size]?=some (.cells #[.slice none 0 0] 102)):=by
    have:=HR.out;rw[hall] at this;exact this
   have hlen:(kst f l).length+lm.length≤1000000:=by
    have h1:=kst_len f l H40.out;have:=HLN.out;omega
   obtain⟨v',w4,q1,q2,q3,q4⟩:=app_gen ofO 100 wr w.heap.size HR2.out.2.2.1.size (.slice oa on oc) vm _ _ _ _ HR2.out.2.1 (HV.out.2.2.2.1.below HR2.out.2.2.1) (by rw[kcells_len]) HV.out.2.2.2.2.1 hlen;have hb4:Below w.heap.size w w4:=HR2.out.2.2.1.grown q3 HR2.out.2.2.1.size (fun t e=>(HR2.out.2.1.lt t e).1);have hbox4:=box_grown0 HR2.out.2.1 HR2.out.2.2.2 (by decide) q3;have q2':RowK w.heap.size v' (kst f l++lm) w4:=by
    show World.ownsRow _ _ _ _ _ _ _;rw[List.length_append,kcells_append];exact q2
   obtain⟨a4,n4,c4,h4⟩:∃a n c,v'=.slice a n c:=by
    rcases q2'.2 with⟨h,_⟩ | ⟨_,_,_,h,_⟩
    ·exact⟨_,_,_,h⟩
    ·exact⟨_,_,_,h⟩
   subst h4;have k0:w4.cell? ⟨w.heap.size,0,none⟩=some (.slice none 0 0):=cLo hbox4 0;have kf:=fRz hbox4 0;have hbz:Below w.heap.size w (w4.setCell ⟨w.heap.size,0,none⟩ (.slice a4 n4 c4)):=hb4.setCell lRf _;have hr5:RowK w.heap.size (.slice a4 n4 c4) (kst f l++lm) (w4.setCell ⟨w.heap.size,0,none⟩ (.slice a4 n4 c4)):=own_set_other q2' hbox4 (by decide);have k1:(w4.setCell ⟨w.heap.size,0,none⟩ (.slice a4 n4 c4)).cell? ⟨w.heap.size,0,none⟩=some (.slice a4 n4 c4):=World.cell?_setCell_same _ _ _ k0;have hbox5:=heap_setCell_same w4 w.heap.size 0 _ _ (.slice a4 n4 c4) hbox4;have HEND:Hid (post (.returned (.agg #[.slice a4 n4 c4])) (w4.setCell ⟨w.heap.size,0,none⟩ (.slice a4 n4 c4))):=by
    show post _ _;rw[HPO.out];exact⟨_,rfl,hr5,hbz⟩
   clear hlt hk hkl hall q2 q3 q4 hb4 q2' hlen hbz hr5 HR HR2;go_wp2_with (at_builtin;refine wp_app rfl _ _ 100 rfl _ _ _ rfl rfl q1 ?_);generalize w4.setCell ⟨w.heap.size,0,none⟩ (.slice a4 n4 c4)=w5 at *;exact bodyPost_ret (v:=.agg #[.slice a4 n4 c4]) (by simp[results,Tryz.results88,go_sem,k1]) rfl HEND.out
end Go.Proofs.YtamhlgflbacjgaaGreat
