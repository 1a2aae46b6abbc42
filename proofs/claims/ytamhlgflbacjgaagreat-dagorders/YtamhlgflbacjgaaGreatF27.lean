/-
  What is proved: as each theorem says.
  Conditions: as each theorem says.
-/
import Derived.Test.YtamhlgflbacjgaaGreatF00
import Derived.Test.YtamhlgflbacjgaaGreatF25
import Derived.Test.YtamhlgflbacjgaaGreatF26
import Derived.Deep.CutBlock
set_option maxRecDepth 100000
set_option maxHeartbeats 16000000
namespace Go.Proofs.YtamhlgflbacjgaaGreat
open Go.RowKit Go.Sort
def idc (R:List Pr):List Value:=R.flatMap fun y=>[.int .i64 y.1,.int .i64 y.2]
theorem idc_app (a b:List Pr):idc (a++b)=idc a++idc b:=by simp[idc]
theorem idc_len (R:List Pr):(idc R).length=R.length*2:=by
 induction R with
 | nil=>rfl
 | cons y R ih=>rw[show idc (y::R)=[.int .i64 y.1,.int .i64 y.2]++idc R from rfl,List.length_append,ih,List.length_cons];simp;omega
theorem idc_take (R:List Pr) (m:Nat) (hm:m≤R.length):(idc R).take (m*2)=idc (R.take m)∧(idc R).drop (m*2)=idc (R.drop m):=by
 have e:idc R=idc (R.take m)++idc (R.drop m):=by rw[←idc_app,List.take_append_drop]
 have hl:(idc (R.take m)).length=m*2:=by rw[idc_len,List.length_take,Nat.min_eq_left hm]
 exact⟨by rw[e,List.take_left' hl],by rw[e,List.drop_left' hl]⟩
theorem idc_one (R:List Pr):∀y∈idc R,y.oneCell'=true:=by
 intro y hy;obtain⟨z,_,hz⟩:=List.mem_flatMap.1 hy;simp at hz;rcases hz with rfl | rfl <;> rfl
theorem ofIds:OfSize 50 49 2:=⟨Tryz.underlying50,by decide,by kernel_rfl⟩
abbrev OwnI (B:Nat) (u:Value) (R:List Pr) (w:World):Prop:=w.ownsRow B 49 2 u R.length (idc R)
theorem own_id {W:World} {B:Nat} {a:Option Addr} {n c:Nat} {R:List Pr} (h:OwnI B (.slice a n c) R W) {m:Nat} (hm:m<R.length) {y:Pr} (hy:R[m]=y):∃b,a=some ⟨b,0,none⟩∧b<W.heap.size∧W.cell? ⟨b,m*2,none⟩=some (.int .i64 y.1)∧W.cell? ⟨b,m*2+1,none⟩=some (.int .i64 y.2):=by
 have e:idc R=idc (R.take m)++(.int .i64 y.1::.int .i64 y.2::idc (R.drop (m+1))):=by
  have h1:R=R.take m++y::R.drop (m+1):=by rw[←hy,List.getElem_cons_drop,List.take_append_drop]
  rw[congrArg idc h1,idc_app];rfl
 have hl:(idc (R.take m)).length=m*2:=by rw[idc_len,List.length_take,Nat.min_eq_left (Nat.le_of_lt hm)]
 rcases h.2 with⟨_,h0⟩ | ⟨g,cap,cur,e1,_,hg,_⟩
 ·omega
 ·obtain⟨rfl,hn,_⟩:=Value.slice.inj e1;subst hn;refine⟨g,rfl,lt_of_heap hg,?_,?_⟩
  ·rw[h.cellAt (m*2) (by omega),e,List.getElem?_append_right (by omega),hl,Nat.sub_self];rfl
  ·rw[h.cellAt (m*2+1) (by omega),e,List.getElem?_append_right (by omega),hl,show m*2+1 - m*2=1 by omega];rfl
theorem own_form {W:World} {B E k n:Nat} {u:Value} {xs:List Value} (h:W.ownsRow B E k u n xs):∃a c,u=.slice a n c:=by
 rcases h.2 with⟨rfl,e⟩ | ⟨g,cap,cur,rfl,_⟩
 ·exact⟨_,_,by rw[e]⟩
 ·exact⟨_,_,rfl⟩
theorem three_boxes (w:World) (a b c:Obj):(((w.alloc a).alloc b).alloc c).heap[w.heap.size]?=some a∧(((w.alloc a).alloc b).alloc c).heap[w.heap.size+1]?=some b∧(((w.alloc a).alloc b).alloc c).heap[w.heap.size+1+1]?=some c∧Below w.heap.size w (((w.alloc a).alloc b).alloc c):=by
 obtain⟨h1,h2,h3⟩:=two_boxes w a b;have hs:((w.alloc a).alloc b).heap.size=w.heap.size+1+1:=by simp
 have h4:=heap_alloc_new ((w.alloc a).alloc b) c;have b4:Below ((w.alloc a).alloc b).heap.size ((w.alloc a).alloc b) (((w.alloc a).alloc b).alloc c):=bAl _ _;rw[hs] at h4;exact⟨heap_below h1 b4 lRf,heap_below h2 b4 lRf,h4,h3.trans (b4.mono h3.size)⟩
structure BB (w:World) (v:Value) (obj el:Pr) (eb:Nat) (wr:World):Prop where
 j:wr.heap[w.heap.size]?=some (.cells #[v] 102)
 p:wr.heap[w.heap.size+1]?=some (.cells #[.int .i64 obj.1,.int .i64 obj.2] 49)
 e:wr.heap[eb]?=some (.cells #[.int .i64 el.1,.int .i64 el.2] 49)
 b:Below w.heap.size w wr
theorem BB.next {w wr w':World} {v:Value} {obj el:Pr} {eb:Nat} (h:BB w v obj el eb wr) (b:Below wr.heap.size wr w'):BB w v obj el eb w':=⟨heap_below h.j b lRf,heap_below h.p b lRf,heap_below h.e b lRf,h.b.trans (b.mono h.b.size)⟩
def IdsP (w:World) (R:List Pr) (e:Ending) (w':World):Prop:=∃u,e=.returned u∧OwnI w.heap.size u R w'∧Below w.heap.size w w'
theorem kid_next {l:List KE} {k:Nat} {o:OpM} {q:Pr} {pv:Value} (h:l[k]?=some ((o,pv),q)) (obj el:Pr):kidsM (keM (l.take (k+1))) obj el=if kidOk obj el (o,q) then insI (kidsM (keM (l.take k)) obj el) q else kidsM (keM (l.take k)) obj el:=by
 have e:keM (l.take (k+1))=keM (l.take k)++[(o,q)]:=by
  rw[List.take_add_one,h];unfold keM;rw[List.map_append];rfl
 rw[e,kids_snoc]
theorem kidOk_of (obj el:Pr) (o:OpM) (q:Pr):kidOk obj el (o,q)=(o.ins&&samePr o.obj obj&&samePr o.elem el):=rfl
theorem ke_take (l:List KE) (k:Nat):(keM (l.take k)).length≤l.length:=by rw[keM_len,List.length_take];omega
theorem keep2 {W W':World} {p0 p1:Addr} {v0 v1:Value} (h:W.cell? p0=some v0∧W.cell? p1=some v1) (hb:Below W.heap.size W W'):W'.cell? p0=some v0∧W'.cell? p1=some v1:=⟨(hb.cell (cell_in h.1)).trans h.1,(hb.cell (cell_in h.2)).trans h.2⟩
theorem keep4i {W W':World} {p0 p1 p2 p3:Addr} {v0 v1 v2 v3:Value} (h:W.cell? p0=some v0∧W.cell? p1=some v1∧W.cell? p2=some v2∧W.cell? p3=some v3) (hb:Below W.heap.size W W'):W'.cell? p0=some v0∧W'.cell? p1=some v1∧W'.cell? p2=some v2∧W'.cell? p3=some v3:=
 ⟨(hb.cell (cell_in h.1)).trans h.1,(hb.cell (cell_in h.2.1)).trans h.2.1,(hb.cell (cell_in h.2.2.1)).trans h.2.2.1,(hb.cell (cell_in h.2.2.2)).trans h.2.2.2⟩
theorem rBehind_step (v:Value) (l:List KE) (obj el:Pr) (w:World) (hv:IsKn w v l) (Bf:Pr→List Pr) (hl:((kidsM (keM l) obj el).flatMap fun k=>k::Bf k).length≤900000)
 (hb:∀k∈kidsM (keM l) obj el,∀W,Below w.heap.size w W→Calls Tryz.prog 154 #[.agg #[v],.agg #[.int .i64 obj.1,.int .i64 obj.2],.agg #[.int .i64 k.1,.int .i64 k.2]] W fun e W'=>IdsP W (Bf k) e W'):
 Calls Tryz.prog 154 #[.agg #[v],.agg #[.int .i64 obj.1,.int .i64 obj.2],.agg #[.int .i64 el.1,.int .i64 el.2]] w fun e w'=>IdsP w ((kidsM (keM l) obj el).flatMap fun k=>k::Bf k) e w':=by
 obtain⟨ka,kn,kc,rfl⟩:∃a n c,v=.slice a n c:=by obtain⟨a,c,e,_⟩:=hv;exact⟨_,_,_,e⟩
 have hkn:kn=l.length:=by obtain⟨_,_,e,_⟩:=hv;exact(Value.slice.inj e).2.1
 have HKN:=hY2 hkn ((by obtain⟨_,_,_,_,h,_⟩:=hv;exact h):l.length≤1000000);have HV:Hid (IsKn w (.slice ka kn kc) l):=hv;have HB:Hid (∀k∈kidsM (keM l) obj el,∀W,Below w.heap.size w W→Calls Tryz.prog 154 #[.agg #[.slice ka kn kc],.agg #[.int .i64 obj.1,.int .i64 obj.2],.agg #[.int .i64 k.1,.int .i64 k.2]] W fun e W'=>IdsP W (Bf k) e W'):=hb
 obtain⟨R,hR⟩:=gNz ((kidsM (keM l) obj el).flatMap (fun k=>k::Bf k));have HR:Hid ((kidsM (keM l) obj el).flatMap (fun k=>k::Bf k)=R):=hR;have HRL:Hid (R.length≤900000):=by rw[←hR];exact hl
 rw[hR];obtain⟨post,hpost⟩:∃post:Ending→World→Prop,post=fun e w'=>IdsP w R e w':=⟨_,rfl⟩
 have HPO:Hid (post=fun e w'=>IdsP w R e w'):=hpost;rw[←hpost];clear hv hkn hpost hb hl hR;go_enter Tryz.func154,Tryz.ntmps154
 go_upto_region 1 with fail
 obtain⟨q0,q1,q2,q3⟩:=three_boxes w (.cells #[.slice ka kn kc] 102) (.cells #[.int .i64 obj.1,.int .i64 obj.2] 49) (.cells #[.int .i64 el.1,.int .i64 el.2] 49);generalize ((w.alloc (.cells #[.slice ka kn kc] 102)).alloc (.cells #[.int .i64 obj.1,.int .i64 obj.2] 49)).alloc (.cells #[.int .i64 el.1,.int .i64 el.2] 49)=W0 at *;generalize w.heap.size+1+1=eb at *;have HA0:Hid (BB w (.slice ka kn kc) obj el eb W0):=⟨q0,q1,q2,q3⟩
 clear q0 q1 q2 q3;go_wp2_with fail;go_loopw [7,8] (fun nn i wr=>∃(k rn:Nat) (a2:Option Addr) (c2:Nat),k≤kn∧i=.int .i64 (k:Int)∧nn=.slice a2 rn c2∧Hid (rn=(kidsM (keM (l.take k)) obj el).length∧OwnI w.heap.size (.slice a2 rn c2) (kidsM (keM (l.take k)) obj el) wr∧BB w (.slice ka kn kc) obj el eb wr)) (fun _ i _=>kn - (RowKit.intOf i).toNat)
 case atStart=>exact⟨0,0,none,0,Nat.zero_le _,rfl,rfl,by simp[keM,kidsM],World.ownsRow_nil _ _ _ _,HA0.out⟩
 case round=>
  obtain⟨k,rn,a2,c2,hk,rfl,rfl,HR1⟩:=hrel;have d0:wr.cell? ⟨w.heap.size,0,none⟩=some (.slice ka kn kc):=cLo HR1.out.2.2.j 0;by_cases hlt:k<kn
  ·have hkl:k<l.length:=by have:=HKN.out.1;omega
   obtain⟨⟨⟨o,pv⟩,q⟩,hq⟩:∃z:KE,l[k]=z:=⟨_,rfl⟩
   obtain⟨kb,ko,rfl,hkb,hkq,hkc⟩:=kn_cells HV.out hkl;clear hkq;rw[hq] at hkc;have hpr:IsPairs w pv o.preds:=by
    obtain⟨_,_,_,_,_,h,_⟩:=HV.out;have:=h l[k] (List.getElem_mem hkl);rw[hq] at this;exact this
   obtain⟨pa,pc,rfl,hp1,hp2,hp3,hp4⟩:=hpr;obtain⟨pn,hpn⟩:=gNz (o.preds.length);rw[hpn] at hkc;have HQ:Hid (l[k]?=some ((o,.slice pa pn pc),q)):=by rw[←hpn,←hq];exact List.getElem?_eq_getElem hkl
   have HC:Hid (∀W,Below w.heap.size w W→∀j,j<15→W.cell? ⟨kb,ko+k*15+j,none⟩=([.int .i64 o.kind,.int .i64 o.obj.1,.int .i64 o.obj.2,.string o.key,.int .i64 o.elem.1,.int .i64 o.elem.2,.bool o.ins,.int .i64 o.val.k,.int .i64 o.val.n,.string o.val.t,.int .i64 o.val.o,.int .i64 o.val.a,.slice pa pn pc,.int .i64 q.1,.int .i64 q.2]:List Value)[j]?):=fun W hW j hj=>(hW.cell (p:=⟨kb,ko+k*15+j,none⟩) hkb).trans (hkc j hj);have g1:(k:Int)<kn:=by omega
   have HG2:Hid ((k:Int)<1000000):=by have:=HKN.out.2;show _<_;omega
   have g3:(0:Int)≤k:=by omega
   have HLT:Hid (k<kn):=hlt;clear hlt hk hkl hkc hpn hp1 hp2 hp3 hp4 hkb hq;have y0:=HC.out wr HR1.out.2.2.b 0 (by omega);have y1:=HC.out wr HR1.out.2.2.b 1 (by omega);have y2:=HC.out wr HR1.out.2.2.b 2 (by omega);have y3:=HC.out wr HR1.out.2.2.b 3 (by omega);have y4:=HC.out wr HR1.out.2.2.b 4 (by omega);have y5:=HC.out wr HR1.out.2.2.b 5 (by omega);have y6:=HC.out wr HR1.out.2.2.b 6 (by omega);have y7:=HC.out wr HR1.out.2.2.b 7 (by omega);have y8:=HC.out wr HR1.out.2.2.b 8 (by omega);have y9:=HC.out wr HR1.out.2.2.b 9 (by omega);have y10:=HC.out wr HR1.out.2.2.b 10 (by omega);have y11:=HC.out wr HR1.out.2.2.b 11 (by omega);have y12:=HC.out wr HR1.out.2.2.b 12 (by omega);have y13:=HC.out wr HR1.out.2.2.b 13 (by omega);have y14:=HC.out wr HR1.out.2.2.b 14 (by omega);simp only[List.getElem?_cons_zero,List.getElem?_cons_succ,Nat.add_zero] at y0 y1 y2 y3 y4 y5 y6 y7 y8 y9 y10 y11 y12 y13 y14;go_upto_region 6 with fail
   have HO1:=hY2 (heap_alloc_new wr _:(wr.alloc (.cells (opB o o.ins (.slice pa pn pc) q.1 q.2) 131)).heap[wr.heap.size]?=some (.cells (opB o o.ins (.slice pa pn pc) q.1 q.2) 131)) (bAl _ _:Below wr.heap.size wr (wr.alloc (.cells (opB o o.ins (.slice pa pn pc) q.1 q.2) 131)));generalize wr.alloc (.cells (opB o o.ins (.slice pa pn pc) q.1 q.2) 131)=w1 at *;have HA1:Hid (BB w (.slice (some ⟨kb,ko,none⟩) kn kc) obj el eb w1):=HR1.out.2.2.next HO1.out.2;clear y0 y1 y2 y3 y4 y5 y6 y7 y8 y9 y10 y11 y12 y13 y14 d0;obtain⟨-,y1,y2,-,y4,y5,y6,-⟩:=cLs HO1.out.1;obtain⟨z1,z2,-⟩:=cLs HA1.out.p;obtain⟨z3,z4,-⟩:=cLs HA1.out.e;have HSAME:Hid (∀W,Below wr.heap.size wr W→kidOk obj el (o,q)=false→rn=(kidsM (keM (l.take (k+1))) obj el).length∧OwnI w.heap.size (.slice a2 rn c2) (kidsM (keM (l.take (k+1))) obj el) W∧BB w (.slice (some ⟨kb,ko,none⟩) kn kc) obj el eb W):=fun W hW h=>by
    rw[kid_next HQ.out,h];exact⟨HR1.out.1,own_below HR1.out.2.1 hW lRf,HR1.out.2.2.next hW⟩
   have EQ1:=eqD o.obj obj;have EQ2:=eqD o.elem el;obtain⟨s0,hs0⟩:=gNz (o.ins:Bool);obtain⟨s1,hs1⟩:=gNz (samePr o.obj obj:Bool);obtain⟨s2,hs2⟩:=gNz (samePr o.elem el:Bool);have HKO:Hid (kidOk obj el (o,q)=(s0&&s1&&s2)):=by show _=_;rw[kidOk_of,hs0,hs1,hs2]
   rw[hs0] at y6;rw[hs1] at EQ1;rw[hs2] at EQ2;clear hs0 hs1 hs2;cases s0 with
   | false=>
    have HN:=HSAME.out w1 HO1.out.2 (by rw[HKO.out];rfl);have HN1:Hid (_∧_∧_):=HN;clear HN HSAME HKO;go_upto_region 4 with fail
    have g2:=HG2.out;go_wp2;go_roundw
    case rel=>exact⟨k+1,rn,a2,c2,HLT.out,by go_num,rfl,HN1.out⟩
    case measure=>have:=HLT.out;simp[RowKit.intOf];omega
   | true=>
    cases s1 with
    | false=>
     have HN:=HSAME.out w1 HO1.out.2 (by rw[HKO.out];rfl);have HN1:Hid (_∧_∧_):=HN;clear HN HSAME HKO;go_upto_region 4 with fail
     have g2:=HG2.out;go_wp2;go_roundw
     case rel=>exact⟨k+1,rn,a2,c2,HLT.out,by go_num,rfl,HN1.out⟩
     case measure=>have:=HLT.out;simp[RowKit.intOf];omega
    | true=>
     cases s2 with
     | false=>
      have HN:=HSAME.out w1 HO1.out.2 (by rw[HKO.out];rfl);have HN1:Hid (_∧_∧_):=HN;clear HN HSAME HKO;go_upto_region 4 with fail
      have g2:=HG2.out;go_wp2;go_roundw
      case rel=>exact⟨k+1,rn,a2,c2,HLT.out,by go_num,rfl,HN1.out⟩
      case measure=>have:=HLT.out;simp[RowKit.intOf];omega
     | true=>
      go_upto_region 7 with fail
      have HOK:Hid (kidOk obj el (o,q)=true):=HKO.out;clear HKO HSAME EQ1 EQ2 y1 y2 y4 y5 y6 z1 z2 z3 z4 g1 g3;obtain⟨R1,hR1⟩:=gNz (kidsM (keM (l.take k)) obj el);have HNXT:Hid (kidsM (keM (l.take (k+1))) obj el=insI R1 q):=by
       show _=_;rw[kid_next HQ.out,HOK.out,if_pos rfl,hR1]
      have HRR:Hid (rn=R1.length∧OwnI w.heap.size (.slice a2 rn c2) R1 wr∧BB w (.slice (some ⟨kb,ko,none⟩) kn kc) obj el eb wr):=by
       have:=HR1.out;rw[hR1] at this;exact this
      have HRK:Hid (R1.length<900000∨900000≤R1.length):=Nat.lt_or_ge _ _;have HRS:Hid (R1.length≤l.length):=by
       have h1:=kids_len (keM (l.take k)) obj el;rw[hR1] at h1;exact Nat.le_trans h1 (ke_take l k)
      have HRT:Hid (R1.length<1000000):=by
       have h1:=kids_len (keM (l.take k)) obj el;rw[hR1,keM_len,List.length_take] at h1;have:=HKN.out;have:=HLT.out;show _<_;omega
      obtain⟨wo,hwo⟩:∃x:World,x=wr:=⟨wr,rfl⟩
      subst hwo;obtain⟨wv,hwv⟩:∃x:World,x=w1:=⟨w1,rfl⟩
      subst hwv;clear hR1 HR1 HOK HQ HRK;go_upto_block 2 with fail
      go_cut [10] from 43 to 57 (fun i wx=>∃m:Nat,i=.int .i64 (m:Int)∧Hid (m=spotI R1 q∧m≤rn∧Below wv.heap.size wv wx))
      case first=>
       go_wp2_with fail;go_loopw [10] (fun i wx=>∃m:Nat,m≤rn∧i=.int .i64 (m:Int)∧Hid ((∀j (hj:j<R1.length),j<m→lessB q.1 q.2 R1[j].1 R1[j].2=true)∧Below wv.heap.size wv wx)) (fun i _=>rn - (RowKit.intOf i).toNat)
       case atStart=>exact⟨0,Nat.zero_le _,rfl,fun j _ hj=>absurd hj (Nat.not_lt_zero _),Below.refl _ _⟩
       case round=>
        obtain⟨m,hm,rfl,HM⟩:=hrel;have HI3:=hY2 ((by have:=HRR.out.1;have:=HRT.out;omega):(m:Int)<10000000) HRR.out.1;by_cases hml:m<rn
        ·have hmR:m<R1.length:=by have:=HRR.out.1;omega
         obtain⟨y,hy⟩:=gNz (R1[m]:Pr);have hbo:Below wo.heap.size wo wr:=HO1.out.2.trans (HM.out.2.mono HO1.out.2.size);obtain⟨b2,rfl,_,j0,j1⟩:=own_id (own_below HRR.out.2.1 hbo lRf) hmR hy;have hob:=heap_below HO1.out.1 HM.out.2 lRf;obtain⟨-,-,-,-,-,-,-,-,-,-,-,-,-,s0,s1,-⟩:=cLs hob;have i1:(m:Int)<rn:=by omega
         have i2:(0:Int)≤m:=by omega
         obtain⟨lb,hlb⟩:=gNz (lessB q.1 q.2 y.1 y.2:Bool);have LS:=rLess_any q.1 q.2 y.1 y.2 wr.drew;rw[hlb] at LS;have HLB:Hid (∃h:m<R1.length,lessB q.1 q.2 R1[m].1 R1[m].2=lb):=⟨hmR,by rw[hy];exact hlb⟩
         have HML:Hid (m<rn):=hml;have HDR:Hid (Below wv.heap.size wv wr.drew):=drew_of HM.out.2;clear hml hm hmR hy hbo hob hlb;go_upto_region 8 with fail
         refine rNh (fun W=>W.cell? ⟨b2,m*2,none⟩=some (.int .i64 y.1)∧W.cell? ⟨b2,m*2+1,none⟩=some (.int .i64 y.2)∧W.cell? ⟨wo.heap.size,13,none⟩=some (.int .i64 q.1)∧W.cell? ⟨wo.heap.size,14,none⟩=some (.int .i64 q.2)) (⟨j0,j1,s0,s1⟩) (fun hHeld=>?_);refine tk 0 rfl ?_ (by intro wz hSw;obtain⟨z0,z1,z2,z3⟩:=hSw;go_simp;try with_reducible rfl);refine tk 1 rfl ?_ (by intro wz hSw;obtain⟨z0,z1,z2,z3⟩:=hSw;go_simp;try with_reducible rfl);refine tk 2 rfl ?_ (by intro wz hSw;obtain⟨z0,z1,z2,z3⟩:=hSw;go_simp;try with_reducible rfl);refine tk 3 rfl ?_ (by intro wz hSw;obtain⟨z0,z1,z2,z3⟩:=hSw;go_simp;try with_reducible rfl);refine tk 4 rfl ?_ (by intro wz hSw;obtain⟨z0,z1,z2,z3⟩:=hSw;go_simp;try with_reducible rfl);refine tk 5 rfl ?_ (by intro wz hSw;obtain⟨z0,z1,z2,z3⟩:=hSw;go_simp;try with_reducible rfl);refine tk 6 rfl ?_ (by intro wz hSw;obtain⟨z0,z1,z2,z3⟩:=hSw;go_simp;try with_reducible rfl);refine tk 7 rfl ?_ (by intro wz hSw;obtain⟨z0,z1,z2,z3⟩:=hSw;go_simp;try with_reducible rfl);refine tk 8 rfl ?_ (by intro wz hSw;obtain⟨z0,z1,z2,z3⟩:=hSw;go_simp;try with_reducible rfl);refine tk 9 rfl ?_ (by intro wz hSw;obtain⟨z0,z1,z2,z3⟩:=hSw;go_simp;try with_reducible rfl);refine tk 10 rfl ?_ (by intro wz hSw;obtain⟨z0,z1,z2,z3⟩:=hSw;go_simp;try with_reducible rfl);refine ts 11 rfl (fun K hK=>?_);go_simp;go_at_call 133;refine LS.mono ?_;rintro e w5 ⟨rfl,hb5⟩;go_wp2_with fail;refine hK.out _ _ (keep4i hHeld hb5) (fun hH5=>?_);clear hK K LS;try simp only[Act.put,nm]
         refine tk 12 rfl ?_;refine wDn ?_;have HB5:Hid (Below wv.heap.size wv w5):=HDR.out.trans (hb5.mono HDR.out.size);clear hHeld hH5 hb5 j0 j1 s0 s1 i1 i2 HDR;cases lb with
         | true=>
          have HNX:Hid (∀j (hj:j<R1.length),j<m+1→lessB q.1 q.2 R1[j].1 R1[j].2=true):=fun j hj hjm=>by
           obtain⟨h,hs⟩:=HLB.out;rcases Nat.lt_or_ge j m with h1 | h1
           ·exact HM.out.1 j hj h1
           ·obtain rfl:j=m:=by omega
            exact hs
          go_upto_region 9 with fail
          have i3:=HI3.out.1;go_wp2;go_roundw
          case rel=>exact⟨m+1,HML.out,by go_num,HNX.out,HB5.out⟩
          case measure=>have:=HML.out;simp[RowKit.intOf];omega
         | false=>
          have HSP:=hY3 ((spotI_go (by have:=HML.out;have:=HI3.out.2;omega) HM.out.1 (fun hk=>by obtain⟨h,hs⟩:=HLB.out;exact hs)).symm:m=spotI R1 q) (Nat.le_of_lt HML.out:m≤rn) HB5.out;go_wp2;go_meet
          case rel=>exact⟨m,rfl,HSP.out⟩
        ·have i1:¬(m:Int)<rn:=by omega
         have HSP:=hY3 ((spotI_go (by have:=HI3.out.2;omega) HM.out.1 (fun hk=>by have:=HI3.out.2;omega)).symm:m=spotI R1 q) hm (drew_of HM.out.2);clear hml hm;go_upto_region 8 with fail
         refine rNh (fun W=>Below wr.heap.size wr W) ((Below.refl _ _).drew) (fun hHeld=>?_);refine tk 0 rfl ?_;refine tk 1 rfl ?_;refine tk 2 rfl ?_;refine tk 3 rfl ?_;refine tk 4 rfl ?_;refine sk 5 rfl ?_;refine sk 6 rfl ?_;refine sk 7 rfl ?_;refine sk 8 rfl ?_;refine sk 9 rfl ?_;refine sk 10 rfl ?_;refine sk 11 rfl ?_;refine tk 12 rfl ?_;refine wDn ?_;clear hHeld;go_wp2;go_meet
         case rel=>exact⟨m,rfl,HSP.out⟩
      case rest=>
       obtain⟨m,rfl,HSP⟩:=hcut;have hm1:m≤R1.length:=by have:=HSP.out.2.1;have:=HRR.out.1;omega
       have hbo:Below wo.heap.size wo wc:=HO1.out.2.trans (HSP.out.2.2.mono HO1.out.2.size);have rI:OwnI w.heap.size (.slice a2 rn c2) R1 wc:=own_below HRR.out.2.1 hbo lRf;have hob:=heap_below HO1.out.1 HSP.out.2.2 lRf;have HAc:Hid (BB w (.slice (some ⟨kb,ko,none⟩) kn kc) obj el eb wc):=HRR.out.2.2.next hbo;obtain⟨kv,hkv⟩:=gNz (Value.slice a2 rn c2:Value);rw[hkv] at rI;obtain⟨u1,u2,hcp⟩:=cut_gen ofIds rI m hm1;obtain⟨v1,v2,v3,W1,W2,W3,hin⟩:=ins_gen ofIds (ys:=[.int .i64 q.1,.int .i64 q.2]) hm1 (idc_len R1) hcp.at1 hcp.at2 (idc_one R1) rfl (idc_one [q]) (by have:=HRT.out;omega);have hsl1:=hcp.lo;have hsl2:=hcp.hi;have q1:=hin.a1;have q3:=hin.a2;have q5:=hin.a3;have hrow:=hin.row;have hins:(idc R1).take (m*2)++[.int .i64 q.1,.int .i64 q.2]++(idc R1).drop (m*2)=idc (insI R1 q):=by
        rw[(idc_take R1 m hm1).1,(idc_take R1 m hm1).2];unfold insI;rw[HSP.out.1,idc_app];simp[idc]
       rw[hins,←insI_len R1 q] at hrow;have hrow2:OwnI w.heap.size v3 (insI R1 q) W3:=own_mono hrow (Nat.le_trans HRR.out.2.2.b.size hbo.size);obtain⟨a3,c3,e3⟩:=own_form hrow2;obtain⟨r9,hr9⟩:=gNz ((insI R1 q).length);rw[hr9] at e3;subst e3;have o13:=cLo (heap_below hob hin.b1 lRf) 13;have o14:=cLo (heap_below hob hin.b1 lRf) 14;change W1.cell? ⟨wo.heap.size,13,none⟩=some (.int .i64 q.1) at o13;change W1.cell? ⟨wo.heap.size,14,none⟩=some (.int .i64 q.2) at o14;have HNEW:Hid (r9=(kidsM (keM (l.take (k+1))) obj el).length∧OwnI w.heap.size (.slice a3 r9 c3) (kidsM (keM (l.take (k+1))) obj el) W3∧BB w (.slice (some ⟨kb,ko,none⟩) kn kc) obj el eb W3):=by
        rw[HNXT.out];exact⟨hr9.symm,by rw[←hr9];exact hr9▸hrow2,HAc.out.next hin.b3⟩
       clear hm1 hbo rI hob hcp hin hrow hins hrow2 hr9 HAc;rw[hkv];clear hkv;go_upto_region 4 with(first
        | (at_builtin;refine wp_app rfl _ _ 50 rfl _ _ _ rfl rfl q1 ?_;clear q1)
        | (at_builtin;refine wp_app rfl _ _ 50 rfl _ _ _ rfl rfl q3 ?_;clear q3)
        | (at_builtin;refine wp_app rfl _ _ 50 rfl _ _ _ rfl rfl q5 ?_;clear q5))
       have g2:=HG2.out;go_wp2;go_roundw
       case rel=>exact⟨k+1,r9,a3,c3,HLT.out,by go_num,rfl,HNEW.out⟩
       case measure=>have:=HLT.out;simp[RowKit.intOf];omega
  ·have g1:¬(k:Int)<kn:=by omega
   have hkl:k=l.length:=by have:=HKN.out.1;omega
   have hall:l.take k=l:=by rw[hkl,List.take_length]
   have HK2:Hid (rn=(kidsM (keM l) obj el).length∧OwnI w.heap.size (.slice a2 rn c2) (kidsM (keM l) obj el) wr∧BB w (.slice ka kn kc) obj el eb wr):=by
    have:=HR1.out;rw[hall] at this;exact this
   obtain⟨Q,hQ⟩:=gNz (kidsM (keM l) obj el);have HQL:Hid (Q.length≤1000000):=by
    have h1:=kids_len (keM l) obj el;rw[hQ,keM_len] at h1;have:=HKN.out;show _≤_;omega
   have HFL:Hid (Q.flatMap (fun k=>k::Bf k)=R):=by rw[←hQ];exact HR.out
   have HBQ:Hid (∀k∈Q,∀W,Below w.heap.size w W→Calls Tryz.prog 154 #[.agg #[.slice ka kn kc],.agg #[.int .i64 obj.1,.int .i64 obj.2],.agg #[.int .i64 k.1,.int .i64 k.2]] W fun e W'=>IdsP W (Bf k) e W'):=by rw[←hQ];exact HB.out
   rw[hQ] at HK2;obtain⟨wo,hwo⟩:∃x:World,x=wr:=⟨wr,rfl⟩
   subst hwo;clear hlt hk hkl hall HR1 hQ HR HB;go_wp2_with fail;go_loopw [12,13] (fun oo i wx=>∃(m on:Nat) (a3:Option Addr) (c3:Nat),m≤rn∧i=.int .i64 (m:Int)∧oo=.slice a3 on c3∧Hid (on=((Q.take m).flatMap fun k=>k::Bf k).length∧OwnI wo.heap.size (.slice a3 on c3) ((Q.take m).flatMap fun k=>k::Bf k) wx∧Below wo.heap.size wo wx)) (fun _ i _=>rn - (RowKit.intOf i).toNat)
   case atStart=>exact⟨0,0,none,0,Nat.zero_le _,rfl,rfl,by simp,World.ownsRow_nil _ _ _ _,Below.refl _ _⟩
   case round=>
    obtain⟨m,on,a3,c3,hm,rfl,rfl,HM⟩:=hrel;by_cases hml:m<rn
    ·have hmQ:m<Q.length:=by have:=HK2.out.1;omega
     obtain⟨y,hy⟩:=gNz (Q[m]:Pr);obtain⟨b2,rfl,hb2,j0,j1⟩:=own_id HK2.out.2.1 hmQ hy;have HCL:Hid (∀W,Below wo.heap.size wo W→W.cell? ⟨w.heap.size,0,none⟩=some (.slice ka kn kc)∧W.cell? ⟨w.heap.size+1,0,none⟩=some (.int .i64 obj.1)∧W.cell? ⟨w.heap.size+1,1,none⟩=some (.int .i64 obj.2)∧W.cell? ⟨b2,m*2,none⟩=some (.int .i64 y.1)∧W.cell? ⟨b2,m*2+1,none⟩=some (.int .i64 y.2)):=fun W hW=>⟨cLo (HK2.out.2.2.next hW).j 0,cLo (HK2.out.2.2.next hW).p 0,cLo (HK2.out.2.2.next hW).p 1,(hW.cell (p:=⟨b2,m*2,none⟩) hb2).trans j0,(hW.cell (p:=⟨b2,m*2+1,none⟩) hb2).trans j1⟩
     have HY:Hid (Q[m]?=some y):=by rw[←hy];exact List.getElem?_eq_getElem hmQ
     have HTK:Hid ((Q.take (m+1)).flatMap (fun k=>k::Bf k)=(Q.take m).flatMap (fun k=>k::Bf k)++([y]++Bf y)):=by
      show _=_;rw[List.take_add_one,HY.out,List.flatMap_append];simp
     have HLL:Hid (((Q.take (m+1)).flatMap fun k=>k::Bf k).length≤900000):=by
      have h1:((Q.take (m+1)).flatMap fun k=>k::Bf k).length≤(Q.flatMap fun k=>k::Bf k).length:=by
       rw[←congrArg List.length (congrArg (List.flatMap fun k=>k::Bf k) (List.take_append_drop (m+1) Q)),List.flatMap_append,List.length_append];omega
      rw[HFL.out] at h1;have:=HRL.out;show _≤_;omega
     obtain⟨O,hO⟩:=gNz ((Q.take m).flatMap (fun k=>k::Bf k));have HO:Hid ((Q.take m).flatMap (fun k=>k::Bf k)=O):=hO;have HM2:Hid (on=O.length∧OwnI wo.heap.size (.slice a3 on c3) O wr∧Below wo.heap.size wo wr):=by
      have:=HM.out;rw[hO] at this;exact this
     rw[hO] at HTK;have hOl:O.length+1+(Bf y).length≤900000:=by
      have h1:=HLL.out;rw[HTK.out,List.length_append,List.length_append,List.length_singleton] at h1;omega
     have hA:=heap_alloc_new wr (.cells #[.int .i64 y.1,.int .i64 y.2] 49);have bA:Below wr.heap.size wr (wr.alloc (.cells #[.int .i64 y.1,.int .i64 y.2] 49)):=bAl _ _;have rA:=own_below HM2.out.2.1 bA lRf;obtain⟨v2,W2,q2,r2,g2,_⟩:=app_gen ofIds 50 _ wo.heap.size (Nat.le_trans HM2.out.2.2.size bA.size) (.slice a3 on c3) (.slice (some ⟨wr.heap.size,0,none⟩) 1 1) _ 1 _ [.int .i64 y.1,.int .i64 y.2] rA (UAt.box (k:=2) hA rfl) rfl (idc_one [y]) (by omega);have b2':Below wo.heap.size wo W2:=(HM2.out.2.2.trans (bA.mono HM2.out.2.2.size)).grown g2 (Nat.le_trans HM2.out.2.2.size bA.size) (fun t e=>(rA.lt t e).1);have r2':OwnI wo.heap.size v2 (O++[y]) W2:=by
      show World.ownsRow _ _ _ _ _ _ _;rw[idc_app,List.length_append];exact r2
     have EB:=fun(W:World) (hW:Below w.heap.size w W)=>HBQ.out y (List.mem_of_getElem? HY.out) W hW;have HSV:=hY3 r2' b2' hOl;have HWW:Hid (∀W,Below wo.heap.size wo W→Below w.heap.size w W):=fun W hW=>(HK2.out.2.2.next hW).b;have i1:(m:Int)<rn:=by omega
     have i2:(0:Int)≤m:=by omega
     have HI3:Hid ((m:Int)<1000001):=by have:=HQL.out;show _<_;omega
     have HML:Hid (m<rn):=hml;have x0:=(HCL.out wr HM2.out.2.2).2.2.2.1;have x1:=(HCL.out wr HM2.out.2.2).2.2.2.2;have HEB:Hid (∀W,Below w.heap.size w W→Calls Tryz.prog 154 #[.agg #[.slice ka kn kc],.agg #[.int .i64 obj.1,.int .i64 obj.2],.agg #[.int .i64 y.1,.int .i64 y.2]] W fun e W'=>IdsP W (Bf y) e W'):=EB
     clear hml hm hmQ hy hO hOl hA bA rA r2 g2 b2' r2' HM hb2 j0 j1 EB;go_upto_region 19 with(first | (at_builtin;refine wp_app rfl _ _ 50 rfl _ _ _ rfl rfl q2 ?_))
     clear q2 x0 x1;generalize wr.alloc _=wq at *;refine rNh (fun W=>Below wo.heap.size wo W) (drew_of HSV.out.2.1) (fun hHeld=>?_);have rD:OwnI wo.heap.size v2 (O++[y]) W2.drew:=HSV.out.1;refine tkC 0 HCL rfl ?_;refine tkC 1 HCL rfl ?_;refine tkC 2 HCL rfl ?_;refine tkC 3 HCL rfl ?_;refine tkC 4 HCL rfl ?_;refine tkC 5 HCL rfl ?_;refine tkC 6 HCL rfl ?_;refine ts 7 rfl (fun K hK=>?_);go_simp;go_at_call 154
     refine(HEB.out W2.drew (HWW.out _ hHeld)).mono ?_;rintro e w5 ⟨u5,rfl,hr5,hb5⟩;go_wp2_with fail;refine hK.out _ _ (hHeld.trans (hb5.mono hHeld.size)) (fun hH5=>?_);clear hK K;try simp only[Act.put,nm]
     have r5:=own_below rD hb5 lRf;obtain⟨v6,W6,q6,r6,g6,_⟩:=app_gen ofIds 50 w5 wo.heap.size hH5.size v2 u5 _ _ _ _ r5 (own_at_u hr5) (idc_len _) (idc_one _) (by have:=HSV.out.2.2;simp;omega);have b6:Below wo.heap.size wo W6:=hH5.grown g6 hH5.size (fun t e=>(r5.lt t e).1);have r6':OwnI wo.heap.size v6 ((Q.take (m+1)).flatMap fun k=>k::Bf k) W6:=by
      show World.ownsRow _ _ _ _ _ _ _;rw[HTK.out,←List.append_assoc,idc_app,List.length_append];exact r6
     obtain⟨a7,c7,e7⟩:=own_form r6';obtain⟨n7,hn7⟩:=gNz (((Q.take (m+1)).flatMap fun k=>k::Bf k).length);rw[hn7] at e7;subst e7;have HN7:=hY3 hn7.symm r6' b6;refine ts 8 rfl (fun K hK=>?_);refine step_app rfl (.tmp 86) (.tmp 93) 50 rfl _ _ _ W6 (by simp[Act.eval]) (by simp[Act.eval]) q6 ?_;refine hK.out _ _ b6 (fun hH6=>?_);clear hK K;try simp only[Act.put,nm]
     refine tk 9 rfl ?_;refine wDn ?_;clear hHeld hH5 hH6 rD r5 q6 r6 g6 b6 r6' hn7 hr5 hb5;go_upto_region 17 with fail
     have i3:=HI3.out;go_wp2;go_roundw
     case rel=>exact⟨m+1,n7,a7,c7,HML.out,by go_num,rfl,HN7.out⟩
     case measure=>have:=HML.out;simp[RowKit.intOf];omega
    ·have i1:¬(m:Int)<rn:=by omega
     have hall:Q.take m=Q:=List.take_of_length_le (by have:=HK2.out.1;omega);have HEND:Hid (post (.returned (.slice a3 on c3)) wr):=by
      show post _ _;rw[HPO.out];have h1:=HM.out;rw[hall,HFL.out] at h1;exact⟨_,rfl,own_mono h1.2.1 HK2.out.2.2.b.size,(HK2.out.2.2.next h1.2.2).b⟩
     clear hml hm hall;go_wp2;exact HEND.out
end Go.Proofs.YtamhlgflbacjgaaGreat
