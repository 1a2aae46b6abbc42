/-
  What is proved: as each theorem says.
  Conditions: as each theorem says.
-/
import Derived.Test.YtamhlgflbacjgaaGreatF00
import Derived.Test.YtamhlgflbacjgaaGreatF30
import Derived.Test.YtamhlgflbacjgaaGreatF31
import Derived.Test.YtamhlgflbacjgaaGreatF25
set_option maxRecDepth 100000
set_option maxHeartbeats 16000000
namespace Go.Proofs.YtamhlgflbacjgaaGreat
open Go.RowKit Go.Sort
theorem four_all (w:World) (a b c d:Obj):((((w.alloc a).alloc b).alloc c).alloc d).heap[w.heap.size]?=some a∧((((w.alloc a).alloc b).alloc c).alloc d).heap[w.heap.size+1]?=some b∧((((w.alloc a).alloc b).alloc c).alloc d).heap[w.heap.size+1+1]?=some c∧((((w.alloc a).alloc b).alloc c).alloc d).heap[w.heap.size+1+1+1]?=some d∧Below w.heap.size w ((((w.alloc a).alloc b).alloc c).alloc d):=by
 obtain⟨h1,h2,h3,h4⟩:=three_boxes w a b c;have hs:(((w.alloc a).alloc b).alloc c).heap.size=w.heap.size+1+1+1:=by simp
 have h5:=heap_alloc_new (((w.alloc a).alloc b).alloc c) d;have b5:Below (((w.alloc a).alloc b).alloc c).heap.size (((w.alloc a).alloc b).alloc c) ((((w.alloc a).alloc b).alloc c).alloc d):=bAl _ _;rw[hs] at h5;exact⟨heap_below h1 b5 lRf,heap_below h2 b5 lRf,heap_below h3 b5 lRf,h5,h4.trans (b5.mono h4.size)⟩
theorem ofOps:OfSize 31 62 13:=⟨Tryz.underlying31,by decide,by kernel_rfl⟩
theorem insAt_mem {l:List (V×Pr)} {x y:V×Pr} (h:y∈insAt l x):y=x∨y∈l:=by
 unfold insAt at h;rcases List.mem_append.1 h with h | h
 ·exact Or.inr (List.mem_of_mem_take h)
 ·rcases List.mem_cons.1 h with h | h
  ·exact Or.inl h
  ·exact Or.inr (List.mem_of_mem_drop h)
theorem atM_in (K:List (OpM×Pr)) (obj:Pr) (key:ByteArray) (el:Pr) (J:List (OpM×Pr)):∀y∈atM K J obj key el,y.2∈J.map (·.2):=by
 have key':∀(J:List (OpM×Pr)) (acc:List (V×Pr)),∀y∈J.foldl (fun acc q=>if atOk K obj key el q then insAt acc (valAt K q,q.2) else acc) acc,y∈acc∨y.2∈J.map (·.2):=by
  intro J
  induction J with
  | nil=>intro acc y hy;exact Or.inl hy
  | cons q J ih=>
   intro acc y hy;rw[List.foldl_cons] at hy;rcases ih _ y hy with h | h
   ·split at h
    ·rcases insAt_mem h with rfl | h
     ·exact Or.inr (List.mem_map.2 ⟨q,List.mem_cons_self ..,rfl⟩)
     ·exact Or.inl h
    ·exact Or.inl h
   ·rw[List.map_cons];exact Or.inr (List.mem_cons_of_mem _ h)
 intro y hy;rcases key' J [] y hy with h | h
 ·cases h
 ·exact h
theorem val_at {W:World} {B:Nat} {a:Option Addr} {n c:Nat} {R:List (V×Pr)} (h:W.ownsRow B 59 5 (.slice a n c) R.length (vcl R)) {m:Nat} (hm:m<R.length) {y:V×Pr} (hy:R[m]=y):∃b,a=some ⟨b,0,none⟩∧W.cell? ⟨b,m*5,none⟩=some (.int .i64 y.1.k):=by
 have e:vcl R=vcl (R.take m)++(.int .i64 y.1.k::.int .i64 y.1.n::.string y.1.t::.int .i64 y.1.o::.int .i64 y.1.a::vcl (R.drop (m+1))):=by
  have h1:R=R.take m++y::R.drop (m+1):=by rw[←hy,List.getElem_cons_drop,List.take_append_drop]
  rw[congrArg vcl h1,vcl_app];rfl
 have hl:(vcl (R.take m)).length=m*5:=by rw[vcl_len,List.length_take,Nat.min_eq_left (Nat.le_of_lt hm)]
 rcases h.2 with⟨_,h0⟩ | ⟨g,cap,cur,e1,_⟩
 ·omega
 ·obtain⟨rfl,hn,_⟩:=Value.slice.inj e1;subst hn;exact⟨g,rfl,by rw[h.cellAt (m*5) (by omega),e,List.getElem?_append_right (by omega),hl,Nat.sub_self];rfl⟩
theorem own_stay {W W':World} {B E k n:Nat} {v:Value} {xs:List Value} (h:W.ownsRow B E k v n xs) (hs:∀b,v.ownBlock=some b→W'.heap[b]?=W.heap[b]?):W'.ownsRow B E k v n xs:=by
 refine⟨h.1,?_⟩;rcases h.2 with h0 | ⟨g,cap,cur,h1,h2,h3,h4⟩
 ·exact Or.inl h0
 ·exact Or.inr ⟨g,cap,cur,h1,h2,(hs g (by rw[h1];rfl)).trans h3,h4⟩
structure AS (w:World) (v:Value) (o:OpM) (ib:Bool) (pv:Value) (el:Pr) (ob eb rb:Nat) (wr:World):Prop where
 j:wr.heap[w.heap.size]?=some (.cells #[v] 102)
 o:wr.heap[ob]?=some (.cells (opA o ib pv) 62)
 e:wr.heap[eb]?=some (.cells #[.int .i64 el.1,.int .i64 el.2] 49)
 r:wr.heap[rb]?=some (.cells #[.int .i64 0,.int .i64 0] 49)
 b:Below w.heap.size w wr
theorem AS.next {w wr w':World} {v pv:Value} {o:OpM} {ib:Bool} {el:Pr} {ob eb rb:Nat} (h:AS w v o ib pv el ob eb rb wr) (b:Below wr.heap.size wr w'):AS w v o ib pv el ob eb rb w':=⟨heap_below h.j b lRf,heap_below h.o b lRf,heap_below h.e b lRf,heap_below h.r b lRf,h.b.trans (b.mono h.b.size)⟩
structure PS (w w1:World) (v:Value) (o:OpM) (ib:Bool) (el:Pr) (ob eb rb:Nat) (I:List Pr) (m:Nat) (pv:Value) (PL:List Pr) (wr:World):Prop where
 row:OwnI w1.heap.size pv PL wr
 few:PL.length≤m
 inn:∀q∈PL,q∈I
 st:AS w v o ib pv el ob eb rb wr
 kp:KpS (fun b=>b=ob∨w1.heap.size≤b) w1 wr
def AddP (h g:Nat) (act:Int) (vp:Value) (P:List OV) (o:OpM) (I:List Pr) (w:World) (e:Ending) (w':World):Prop:=
 ∃r1 r2 t,e=.returned (.tuple #[.agg #[.int .i64 r1,.int .i64 r2],.int .i64 t])∧(I64 r1∧I64 r2)∧(Below w.heap.size w w'∨∃vp' pv PL,
  KpS (fun b=>b=h∨vp.ownBlock=some b∨w.heap.size≤b) w w'∧w'.heap[h]?=some (.cells #[.int .i64 act,.pointer (some ⟨g,0,none⟩),vp'] 68)∧RowO 0 vp' (P++[({o with preds:=PL},pv)]) w'∧(vp'.ownBlock=vp.ownBlock∨∃b,vp'.ownBlock=some b∧w.heap.size≤b)∧OwnI w.heap.size pv PL w'∧PL.length≤12∧(∀q∈PL,q∈I)∧P.length<40)
theorem rAddI_any (ib:Bool) (h g:Nat) (act:Int) (cx:List CX) (vl vw vp v:Value) (P:List OV) (nw:Nat) (l:List KE) (o:OpM) (el:Pr) (w:World) (hib:o.ins=ib) (hb:w.heap[h]?=some (.cells #[.int .i64 act,.pointer (some ⟨g,0,none⟩),vp] 68)) (bb:w.heap[g]?=some (.cells #[vl,vw] 73)) (hc:IsChgs w vl cx) (hok:∀x∈cx,chk x.c=0) (hcl:cx.length≤120) (hw:∃a c,vw=.slice a nw c) (hnw:nw≤120) (hp:RowO 0 vp P w) (hpl:P.length≤40) (hv:IsKn w v l) (hl:l.length≤900000) (hact:I64 act):
 Calls Tryz.prog 58 #[.pointer (some ⟨h,0,none⟩),.agg #[v],.agg (opA o ib (.slice none 0 0)),.agg #[.int .i64 el.1,.int .i64 el.2]] w fun e w'=>AddP h g act vp P o ((keM l).map (·.2)) w e w':=by
 obtain⟨ka,kn,kc,rfl⟩:∃a n c,v=.slice a n c:=by obtain⟨a,c,e,_⟩:=hv;exact⟨_,_,_,e⟩
 obtain⟨wa,wc0,rfl⟩:=hw;obtain⟨la,ln,lc,rfl⟩:∃a n c,vl=.slice a n c:=by obtain⟨a,c,e,_⟩:=hc;exact⟨_,_,_,e⟩
 have hln:ln=cx.length:=by obtain⟨_,_,e,_⟩:=hc;exact(Value.slice.inj e).2.1
 obtain⟨pa,pc,rfl⟩:=own_form hp;obtain⟨pn,hpn⟩:=gNz (P.length);change w.ownsRow 0 62 13 _ P.length (ocells P) at hp;rw[hpn] at hb hp;have HX:Hid (w.heap[h]?=some (.cells #[.int .i64 act,.pointer (some ⟨g,0,none⟩),.slice pa pn pc] 68)∧w.heap[g]?=some (.cells #[.slice la ln lc,.slice wa nw wc0] 73)):=⟨hb,bb⟩
 have HC:Hid (IsChgs w (.slice la ln lc) cx∧(∀x∈cx,chk x.c=0)∧cx.length≤120∧ln=cx.length∧nw≤120):=⟨hc,hok,hcl,hln,hnw⟩
 have HP:Hid (w.ownsRow 0 62 13 (.slice pa pn pc) pn (ocells P)∧P.length=pn∧pn≤40):=⟨hp,hpn,by omega⟩
 have HV:Hid (IsKn w (.slice ka kn kc) l∧l.length≤900000):=⟨hv,hl⟩
 have HIB:Hid (o.ins=ib):=hib;have HACT:Hid (I64 act∧I64 0):=⟨hact,by unfold I64;omega⟩
 obtain⟨I,hI⟩:=gNz ((keM l).map (·.2));have HI:Hid ((keM l).map (·.2)=I):=hI;obtain⟨post,hpost⟩:∃post:Ending→World→Prop,post=fun e w'=>AddP h g act (.slice pa pn pc) P o I w e w':=⟨_,rfl⟩
 have HPO:Hid (post=fun e w'=>AddP h g act (.slice pa pn pc) P o I w e w'):=hpost;rw[hpn,hI,←hpost];clear hact hib hb bb hc hok hcl hnw hln hp hpl hpn hv hl hI hpost;go_enter Tryz.func58,Tryz.ntmps58
 go_upto_region 3 with fail
 obtain⟨q0,q1,q2,q3,q4⟩:=four_all w (.cells #[.slice ka kn kc] 102) (.cells (opA o ib (.slice none 0 0)) 62) (.cells #[.int .i64 el.1,.int .i64 el.2] 49) (.cells #[.int .i64 0,.int .i64 0] 49);generalize (((w.alloc (.cells #[.slice ka kn kc] 102)).alloc (.cells (opA o ib (.slice none 0 0)) 62)).alloc (.cells #[.int .i64 el.1,.int .i64 el.2] 49)).alloc (.cells #[.int .i64 0,.int .i64 0] 49)=W0 at *;obtain⟨rb,hrb⟩:=gNz (w.heap.size+1+1+1);obtain⟨eb,heb⟩:=gNz (w.heap.size+1+1);obtain⟨ob,hob⟩:=gNz (w.heap.size+1);rw[hrb] at q3 ⊢;rw[heb] at q2 ⊢;rw[hob] at q1 ⊢;have HLO:Hid (w.heap.size<ob∧ob<eb∧eb<rb):=by refine⟨?_,?_,?_⟩ <;> omega
 have HS0:Hid (AS w (.slice ka kn kc) o ib (.slice none 0 0) el ob eb rb W0):=⟨q0,q1,q2,q3,q4⟩
 clear q0 q1 q2 q3 q4 hrb heb hob;obtain⟨-,-,-,-,-,-,c6,-⟩:=cLs HS0.out.o;go_upto_if 18 with fail
 clear c6;go_cut [10,11] from 18 to 28 (fun vv nn wx=>∃(R:List (V×Pr)) (rn:Nat) (a1:Option Addr) (c1:Nat) (a2:Option Addr) (c2:Nat),vv=.slice a1 rn c1∧nn=.slice a2 rn c2∧Hid (rn=R.length∧RowsR w (.slice a1 rn c1) (.slice a2 rn c2) R wx∧AS w (.slice ka kn kc) o ib (.slice none 0 0) el ob eb rb wx∧rn≤900000∧∀y∈R,y.2∈I))
 case first=>
  cases ib with
  | true=>
   go_wp2;go_meet
   case rel=>exact⟨[],0,none,0,none,0,rfl,rfl,rfl,⟨World.ownsRow_nil _ _ _ _,World.ownsRow_nil _ _ _ _⟩,HS0.out,by omega,fun y hy=>by cases hy⟩
  | false=>
   have c0:W0.cell? ⟨w.heap.size,0,none⟩=some (.slice ka kn kc):=cLo HS0.out.j 0;obtain⟨-,c1,c2,c3,-⟩:=cLs HS0.out.o;obtain⟨c4,c5,-⟩:=cLs HS0.out.e;have EA:=rAt_any (.slice ka kn kc) l o.obj o.key el W0 (HV.out.1.below HS0.out.b);go_wp2_with fail;go_fit EA;rintro e w2 ⟨va,na,rfl,hrr,hb2⟩;obtain⟨R,hR⟩:=gNz (atM (keM l) (keM l) o.obj o.key el);have HRI:Hid (R.length≤900000∧∀y∈R,y.2∈I):=by
    rw[←hR,←HI.out];have h1:=atM_len (keM l) o.obj o.key el (keM l);rw[keM_len] at h1;exact⟨Nat.le_trans h1 HV.out.2,atM_in _ _ _ _ _⟩
   rw[hR] at hrr;obtain⟨a1,x1,e1⟩:=own_form hrr.1;obtain⟨a2,x2,e2⟩:=own_form hrr.2;obtain⟨rn,hrn⟩:=gNz (R.length);rw[hrn] at e1 e2;subst e1 e2;have HFIN:Hid (rn=R.length∧RowsR w (.slice a1 rn x1) (.slice a2 rn x2) R w2∧AS w (.slice ka kn kc) o false (.slice none 0 0) el ob eb rb w2∧rn≤900000∧∀y∈R,y.2∈I):=⟨hrn.symm,⟨own_mono hrr.1 HS0.out.b.size,own_mono hrr.2 HS0.out.b.size⟩,HS0.out.next hb2,by have:=HRI.out.1;omega,HRI.out.2⟩
   clear hR hrr hrn hb2 EA c0 c1 c2 c3 c4 c5;go_wp2;go_meet
   case rel=>exact⟨R,rn,a1,x1,a2,x2,rfl,rfl,HFIN.out⟩
 case rest=>
  obtain⟨R,rn,a1,c1,a2,c2,rfl,rfl,HR⟩:=hcut;obtain⟨w1,hw1⟩:∃x:World,x=wc:=⟨wc,rfl⟩
  subst hw1;clear HS0;have hwr:IntKind.i64.wrap ((rn:Int) - 1)=(rn:Int) - 1:=IntWalk.i64_in _ (by have:=HR.out.2.2.2.1;omega);go_upto_region 6 with fail
  have HW1:Hid (w.heap.size≤w1.heap.size∧ob<w1.heap.size∧eb<w1.heap.size∧rb<w1.heap.size):=⟨HR.out.2.2.1.b.size,lt_of_heap HR.out.2.2.1.o,lt_of_heap HR.out.2.2.1.e,lt_of_heap HR.out.2.2.1.r⟩
  go_loopw [12] (fun i wr=>∃(k:Nat) (z:Int) (pv:Value) (PL:List Pr),i=.int .i64 z∧Hid (z=(k:Int) - 1∧k≤rn∧PS w w1 (.slice ka kn kc) o ib el ob eb rb I (rn - k) pv PL wr)) (fun i _=>(RowKit.intOf i+1).toNat)
  case atStart=>exact⟨rn,_,.slice none 0 0,[],rfl,rfl,lRf,World.ownsRow_nil _ _ _ _,Nat.zero_le _,(fun q hq=>by cases hq),HR.out.2.2.1,KpS.refl _ _⟩
  case round=>
   obtain⟨k,z,pv,PL,rfl,HZ⟩:=hrel;obtain⟨pva,pvc,hpv⟩:=own_form HZ.out.2.2.row;obtain⟨pvn,hpvn⟩:=gNz (PL.length);rw[hpvn] at hpv;subst hpv;have HPN:Hid (PL.length=pvn):=hpvn;clear hpvn;by_cases hz:0≤z
   ·obtain⟨m,rfl⟩:=Int.eq_ofNat_of_zero_le hz;have hk:k=m+1:=by have:=HZ.out.1;omega
    subst hk;have hmR:m<R.length:=by have:=HZ.out.2.1;have:=HR.out.1;omega
    have hmn:m<rn:=HZ.out.2.1;obtain⟨y,hy⟩:=gNz (R[m]:V×Pr);have rows:∀W,KpS (fun b=>b=ob∨w1.heap.size≤b) w1 W→W.ownsRow w.heap.size 59 5 (.slice a1 rn c1) R.length (vcl R)∧W.ownsRow w.heap.size 49 2 (.slice a2 rn c2) R.length (icl R):=fun W hW=>by
     have keep:∀{e s n:Nat} {v:Value} {xs:List Value},w1.ownsRow w.heap.size e s v n xs→e≠62→W.ownsRow w.heap.size e s v n xs:=fun {e s n v xs} hr he=>by
      refine⟨hr.1,?_⟩;rcases hr.2 with h0 | ⟨gg,cap,cur,h1,h2,h3,h4⟩
      ·exact Or.inl h0
      ·refine Or.inr ⟨gg,cap,cur,h1,h2,?_,h4⟩;rw[hW.block gg (lt_of_heap h3) (fun hS=>by
        rcases hS with rfl | hS
        ·have h5:=HR.out.2.2.1.o;rw[h3] at h5;injection h5 with h5
         injection h5 with _ h6 _
         exact he h6
        ·have:=lt_of_heap h3;omega)]
       exact h3
     exact⟨keep HR.out.2.1.1 (by decide),keep HR.out.2.1.2 (by decide)⟩
    obtain⟨b1,e1,_⟩:=val_at (rows w1 (KpS.refl _ _)).1 hmR hy;obtain⟨b2,e2,_⟩:=rid_at (rows w1 (KpS.refl _ _)).2 hmR hy;subst e1 e2;have HCL:Hid (∀W,KpS (fun b=>b=ob∨w1.heap.size≤b) w1 W→W.cell? ⟨b1,m*5,none⟩=some (.int .i64 y.1.k)∧W.cell? ⟨b2,m*2,none⟩=some (.int .i64 y.2.1)∧W.cell? ⟨b2,m*2+1,none⟩=some (.int .i64 y.2.2)):=fun W hW=>by
     obtain⟨r1,r2⟩:=rows W hW;obtain⟨b1',e1,s1⟩:=val_at r1 hmR hy;obtain⟨b2',e2,s2,s3⟩:=rid_at r2 hmR hy;have e1':b1=b1':=by injection e1 with e1;injection e1
     have e2':b2=b2':=by injection e2 with e2;injection e2
     subst e1' e2';exact⟨s1,s2,s3⟩
    have HYI:Hid (y.2∈I):=by have:=HR.out.2.2.2.2 R[m] (List.getElem_mem hmR);rw[hy] at this;exact this
    have HM:Hid (m<rn∧rn≤900000):=⟨hmn,HR.out.2.2.2.1⟩
    have g1:(0:Int)≤m:=by omega
    have g2:(m:Int)<rn:=by omega
    have u0:wr.cell? ⟨ob,0,none⟩=some (.int .i64 o.kind):=cLo HZ.out.2.2.st.o 0;have x0:=(HCL.out wr HZ.out.2.2.kp).1;have HG:Hid ((0:Int)≤m∧(m:Int)<rn):=⟨g1,g2⟩
    clear hz hmR hmn hy rows;go_upto_region 8 with fail
    go_cut [46] from 36 to 45 (fun b wx=>∃bb,b=.bool bb∧wx=wr)
    case first=>
     by_cases h4:o.kind=4
     ·rw[h4] at u0;by_cases hv4:y.1.k=4
      ·rw[hv4] at x0;clear h4 hv4;go_wp2;go_meet
       case rel=>exact⟨_,rfl,rfl⟩
      ·have hd:(y.1.k==4)=false:=by simpa using hv4
       clear h4 hv4;go_wp2;go_meet
       case rel=>exact⟨_,rfl,rfl⟩
     ·have hd:(o.kind !=4)=true:=by simpa using h4
      clear h4;go_wp2;go_meet
      case rel=>exact⟨_,rfl,rfl⟩
    case rest=>
     obtain⟨bb,rfl,hwc⟩:=hcut;subst hwc;clear u0 x0 g1 g2;cases bb with
     | true=>
      have hbx:=HZ.out.2.2.st.o;obtain⟨-,-,-,-,-,-,-,-,-,-,-,-,p12,-⟩:=cLs hbx;obtain⟨_,s1,s2⟩:=HCL.out wc HZ.out.2.2.kp;have kf:=fRz hbx 12;have b0:Below wc.heap.size wc (wc.drew.alloc (.cells #[.int .i64 y.2.1,.int .i64 y.2.2] 49)):=((Below.refl wc.heap.size wc).drew).alloc lRf _;have rA:=own_below HZ.out.2.2.row b0 lRf;have hw1s:w1.heap.size≤wc.heap.size:=HZ.out.2.2.kp.size;have hlen:PL.length≤900000:=by have:=HZ.out.2.2.few;have:=HM.out;omega
      obtain⟨v9,U9,happ,row9,gr9,hv9⟩:=app_gen ofIds 50 (wc.drew.alloc (.cells #[.int .i64 y.2.1,.int .i64 y.2.2] 49)) w1.heap.size (Nat.le_trans hw1s b0.size) (.slice pva pvn pvc) (.slice (some ⟨wc.heap.size,0,none⟩) 1 1) _ 1 _ [.int .i64 y.2.1,.int .i64 y.2.2] rA (UAt.box (k:=2) (heap_alloc_new wc.drew _) rfl) rfl (idc_one [y.2]) (by omega);have k9:KpS (fun b=>b=ob∨w1.heap.size≤b) w1 U9:=(HZ.out.2.2.kp.trans (KpS.of b0)).trans (KpS.grown (fun b e=>Or.inr (rA.lt b e).1) gr9);have hbA:=heap_below hbx b0 lRf;have hb9:U9.heap[ob]?=some (.cells (opA o ib (.slice pva pvn pvc)) 62):=(gr9.block ob (lt_of_heap hbA) (fun e=>own_ne_box rA hbA (by decide) e.symm)).trans hbA;have hK9:KpS (fun b=>b=ob∨w1.heap.size≤b) w1 (U9.setCell ⟨ob,12,none⟩ v9):=k9.trans (KpS.set v9 (Or.inl rfl));have hbF:(U9.setCell ⟨ob,12,none⟩ v9).heap[ob]?=some (.cells (opA o ib v9) 62):=by rw[set_at hb9 12 v9];rfl
      have other:∀{b:Nat} {c:Array Value} {t:TypeId},wc.heap[b]?=some (.cells c t)→t≠62→b<w1.heap.size→(U9.setCell ⟨ob,12,none⟩ v9).heap[b]?=some (.cells c t):=fun {b c t} hb ht hlt=>by
       have h1:=heap_below hb b0 lRf;have h2:U9.heap[b]?=some (.cells c t):=(gr9.block b (lt_of_heap h1) (fun e=>by have:=(rA.lt b e.symm).1;omega)).trans h1;exact heap_set_other h2 (cells_apart h2 hb9 ht)
      have HNX:Hid (PS w w1 (.slice ka kn kc) o ib el ob eb rb I (rn - m) v9 (PL++[y.2]) (U9.setCell ⟨ob,12,none⟩ v9)):=by
       have st:=HZ.out.2.2.st;refine⟨?_,?_,fun q hq=>?_,⟨other st.j (by decide) (Nat.lt_of_lt_of_le (by have:=HLO.out;have:=HW1.out;omega) lRf),hbF,other st.e (by decide) HW1.out.2.2.1,other st.r (by decide) HW1.out.2.2.2,?_⟩,hK9⟩
       ·have h1:U9.ownsRow w1.heap.size 49 2 v9 (PL.length+1) (idc PL++[.int .i64 y.2.1,.int .i64 y.2.2]):=row9;have h2:=own_set_other (u:=v9) (i:=12) h1 hb9 (by decide);show World.ownsRow _ _ _ _ _ _ _;rw[idc_app,List.length_append];exact h2
       ·have:=HZ.out.2.2.few;have:=HM.out;rw[List.length_append,List.length_singleton];omega
       ·rcases List.mem_append.1 hq with hq | hq
        ·exact HZ.out.2.2.inn q hq
        ·rw[List.mem_singleton.1 hq];exact HYI.out
       ·exact HR.out.2.2.1.b.trans (hK9.below HW1.out.1 (fun b hS=>by
         rcases hS with rfl | hS
         ·have:=HLO.out;omega
         ·have:=HW1.out;omega))
      obtain⟨v9a,v9c,ev9⟩:=own_form row9;have HSA:Hid (((wc.drew.alloc (.cells #[.int .i64 y.2.1,.int .i64 y.2.2] 49)).cell? ⟨ob,12,none⟩=some (.slice pva pvn pvc)∧(wc.drew.alloc (.cells #[.int .i64 y.2.1,.int .i64 y.2.2] 49)).cell? ⟨b2,m*2,none⟩=some (.int .i64 y.2.1)∧(wc.drew.alloc (.cells #[.int .i64 y.2.1,.int .i64 y.2.2] 49)).cell? ⟨b2,m*2+1,none⟩=some (.int .i64 y.2.2))∧U9.cell? ⟨ob,12,none⟩=some (.slice pva pvn pvc)∧U9.cell? ⟨b2,m*2,none⟩=some (.int .i64 y.2.1)∧U9.cell? ⟨b2,m*2+1,none⟩=some (.int .i64 y.2.2)):=⟨⟨cLo hbA 12,(HCL.out _ (HZ.out.2.2.kp.trans (KpS.of b0))).2⟩,cLo hb9 12,(HCL.out _ k9).2⟩
      obtain⟨-,-,-,-,-,-,-,-,-,-,-,-,n12,-⟩:=cLs hb9;have nf:=fRz hb9 12;have g1:=HG.out.1;have g2:=HG.out.2;obtain⟨v9n,hv9n⟩:=gNz (PL.length+1);rw[hv9n] at ev9;subst ev9;clear hbx kf b0 rA hw1s hlen row9 gr9 hv9 k9 hbA hb9 hK9 hbF other hv9n;go_upto_region 9 with fail
      refine wp_region_noPanic ?_;refine early_begin (S:=fun W=>W.cell? ⟨ob,12,none⟩=some (.slice pva pvn pvc)∧W.cell? ⟨b2,m*2,none⟩=some (.int .i64 y.2.1)∧W.cell? ⟨b2,m*2+1,none⟩=some (.int .i64 y.2.2)) (late:=fun k=>decide (8≤k)) (by kernel_rfl) ?_;have hHeld:wc.drew.cell? ⟨ob,12,none⟩=some (.slice pva pvn pvc)∧wc.drew.cell? ⟨b2,m*2,none⟩=some (.int .i64 y.2.1)∧wc.drew.cell? ⟨b2,m*2+1,none⟩=some (.int .i64 y.2.2):=⟨p12,s1,s2⟩
      refine ek 0 rfl ?_ (by intro wz hSw;obtain⟨z0,z1,z2⟩:=hSw;go_simp;try with_reducible rfl);refine ek 1 rfl ?_ (by intro wz hSw;obtain⟨z0,z1,z2⟩:=hSw;go_simp;try with_reducible rfl);refine ek 2 rfl ?_ (by intro wz hSw;obtain⟨z0,z1,z2⟩:=hSw;go_simp;try with_reducible rfl);refine ek 3 rfl ?_ (by intro wz hSw;obtain⟨z0,z1,z2⟩:=hSw;go_simp;try with_reducible rfl);refine ek 4 rfl ?_ (by intro wz hSw;obtain⟨z0,z1,z2⟩:=hSw;go_simp;try with_reducible rfl);refine ek 5 rfl ?_ (by intro wz hSw;obtain⟨z0,z1,z2⟩:=hSw;go_simp;try with_reducible rfl);refine es 6 rfl (fun K hK=>?_);go_simp;refine hK.out _ _ (fun _=>HSA.out.1) ?_;clear hK K;try simp only[Act.put,nm]
      refine es 7 rfl (fun K hK=>?_);refine step_app rfl (.tmp 48) (.tmp 53) 50 rfl _ _ _ U9 (by simp[Act.eval]) (by simp[Act.eval]) happ ?_;refine hK.out _ _ (fun _=>HSA.out.2) ?_;clear hK K;try simp only[Act.put,nm]
      refine es 8 rfl (fun K hK=>?_);go_simp;refine hK.out _ _ (fun h=>absurd h (by decide)) ?_;clear hK K;try simp only[Act.put,nm]
      refine es 9 rfl (fun K hK=>?_);go_simp;refine hK.out _ _ (fun h=>absurd h (by decide)) ?_;clear hK K;try simp only[Act.put,nm]
      refine early_done (by kernel_rfl) ?_ _;refine NoPanic.normal ?_;clear hHeld p12 s1 s2 happ n12 nf g1 g2;generalize U9.setCell ⟨ob,12,none⟩ (.slice v9a v9n v9c)=wz at *;have hw8:IntKind.i64.wrap ((m:Int) - 1)=(m:Int) - 1:=IntWalk.i64_in _ (by have:=HM.out;omega);go_wp2;go_roundw
      case rel=>exact⟨m,_,_,_,rfl,rfl,Nat.le_of_lt HM.out.1,HNX.out⟩
      case measure=>simp[RowKit.intOf] <;> omega
     | false=>
      have HNX:Hid (PS w w1 (.slice ka kn kc) o ib el ob eb rb I (rn - m) (.slice pva pvn pvc) PL wc):=⟨HZ.out.2.2.row,by have:=HZ.out.2.2.few;omega,HZ.out.2.2.inn,HZ.out.2.2.st,HZ.out.2.2.kp⟩
      have hw8:IntKind.i64.wrap ((m:Int) - 1)=(m:Int) - 1:=IntWalk.i64_in _ (by have:=HM.out;omega);go_wp2;go_roundw
      case rel=>exact⟨m,_,_,_,rfl,rfl,Nat.le_of_lt HM.out.1,HNX.out⟩
      case measure=>simp[RowKit.intOf] <;> omega
   ·have HPS:Hid (AS w (.slice ka kn kc) o ib (.slice pva pvn pvc) el ob eb rb wr∧OwnI w1.heap.size (.slice pva pvn pvc) PL wr∧PL.length≤rn∧∀q∈PL,q∈I):=⟨HZ.out.2.2.st,HZ.out.2.2.row,Nat.le_trans HZ.out.2.2.few (Nat.sub_le _ _),HZ.out.2.2.inn⟩
    have HBAD:Hid (∀(W:World) (t:Int),AS w (.slice ka kn kc) o ib (.slice pva pvn pvc) el ob eb rb W→post (.returned (.tuple #[.agg #[.int .i64 0,.int .i64 0],.int .i64 t])) ((W.setCell ⟨rb,0,none⟩ (.int .i64 0)).setCell ⟨rb,1,none⟩ (.int .i64 0))):=fun W t hS=>by
     rw[HPO.out];exact⟨_,_,_,rfl,⟨HACT.out.2,HACT.out.2⟩,Or.inl ((hS.b.setCell (by have:=HLO.out;show _≤rb;omega) _).setCell (by have:=HLO.out;show _≤rb;omega) _)⟩
    obtain⟨u0,-,-,-,-,-,-,-,-,-,-,-,u12,-⟩:=cLs HPS.out.1.o;clear HZ;go_upto_region 10 with fail
    clear hz;go_cut [64] from 56 to 63 (fun b wx=>∃bb,b=.bool bb∧wx=wr)
    case first=>
     by_cases h3:o.kind=3
     ·rw[h3] at u0;clear h3;go_wp2;go_meet
      case rel=>exact⟨_,rfl,rfl⟩
     ·have hd:(o.kind==3)=false:=by simpa using h3
      clear h3;go_wp2;go_meet
      case rel=>exact⟨_,rfl,rfl⟩
    case rest=>
     obtain⟨bb,rfl,hwc⟩:=hcut;subst hwc;obtain⟨r0,r1,-⟩:=cLs HPS.out.1.r;have rf:=fRz HPS.out.1.r 0;have rf1:=fRz HPS.out.1.r 1;cases bb with
     | true=>
      have HE:=HBAD.out wc 6 HPS.out.1;have HE1:Hid (_):=HE;have k0:((wc.setCell ⟨rb,0,none⟩ (.int .i64 0)).setCell ⟨rb,1,none⟩ (.int .i64 0)).cell? ⟨rb,0,none⟩=some (.int .i64 0):=by rw[World.cell?_setCell_other _ _ _ _ (by simp)];exact World.cell?_setCell_same _ _ _ r0
      have k1:((wc.setCell ⟨rb,0,none⟩ (.int .i64 0)).setCell ⟨rb,1,none⟩ (.int .i64 0)).cell? ⟨rb,1,none⟩=some (.int .i64 0):=World.cell?_setCell_same _ _ _ (by rw[World.cell?_setCell_other _ _ _ _ (by simp)];exact r1);clear HE;go_wp2_with fail;generalize (wc.setCell ⟨rb,0,none⟩ (.int .i64 0)).setCell ⟨rb,1,none⟩ (.int .i64 0)=w9 at *;exact bodyPost_ret (v:=.tuple #[.agg #[.int .i64 0,.int .i64 0],.int .i64 6]) (by simp[results,Tryz.results58,go_sem,k0,k1]) rfl HE1.out
     | false=>
      clear r0 r1 rf rf1;obtain⟨w6,hw6⟩:∃x:World,x=wc:=⟨wc,rfl⟩
      subst hw6;go_upto_region 12 with fail
      go_cut [74] from 66 to 73 (fun b wx=>∃bb,b=.bool bb∧wx=w6)
      case first=>
       by_cases h3:o.kind=4
       ·rw[h3] at u0;clear h3;go_wp2;go_meet
        case rel=>exact⟨_,rfl,rfl⟩
       ·have hd:(o.kind==4)=false:=by simpa using h3
        clear h3;go_wp2;go_meet
        case rel=>exact⟨_,rfl,rfl⟩
      case rest=>
       obtain⟨bb,rfl,hwc⟩:=hcut;subst hwc;clear u0 u12;cases bb with
       | true=>
        obtain⟨r0,r1,-⟩:=cLs HPS.out.1.r;have rf:=fRz HPS.out.1.r 0;have rf1:=fRz HPS.out.1.r 1;have HE:=HBAD.out wc 10 HPS.out.1;have HE1:Hid (_):=HE;have k0:((wc.setCell ⟨rb,0,none⟩ (.int .i64 0)).setCell ⟨rb,1,none⟩ (.int .i64 0)).cell? ⟨rb,0,none⟩=some (.int .i64 0):=by rw[World.cell?_setCell_other _ _ _ _ (by simp)];exact World.cell?_setCell_same _ _ _ r0
        have k1:((wc.setCell ⟨rb,0,none⟩ (.int .i64 0)).setCell ⟨rb,1,none⟩ (.int .i64 0)).cell? ⟨rb,1,none⟩=some (.int .i64 0):=World.cell?_setCell_same _ _ _ (by rw[World.cell?_setCell_other _ _ _ _ (by simp)];exact r1);clear HE;go_wp2_with fail;generalize (wc.setCell ⟨rb,0,none⟩ (.int .i64 0)).setCell ⟨rb,1,none⟩ (.int .i64 0)=w9 at *;exact bodyPost_ret (v:=.tuple #[.agg #[.int .i64 0,.int .i64 0],.int .i64 10]) (by simp[results,Tryz.results58,go_sem,k0,k1]) rfl HE1.out
       | false=>
        have E1:=rStart_any h g act cx (.slice la ln lc) (.slice wa nw wc0) (.slice pa pn pc) wc (heap_below HX.out.1 HPS.out.1.b lRf) (heap_below HX.out.2 HPS.out.1.b lRf) (HC.out.1.below HPS.out.1.b) HC.out.2.1 (by have:=HC.out.2.2.1;omega);obtain⟨n9,hn9⟩:=gNz (startN (cx.map (·.c)));obtain⟨s9,hs9⟩:=gNz (startS act (cx.map (·.c)));have HN9:Hid (1≤n9∧n9≤1000040):=by
         rw[←hn9];exact startN_range fun c hc=>by
          obtain⟨x,hx,rfl⟩:=List.mem_map.1 hc;exact small_of (HC.out.2.1 x hx)
        rw[hn9,hs9] at E1;clear hn9 hs9;go_wp2_with fail;go_fit E1;rintro e w3 ⟨rfl,b3⟩;have HP3:Hid (AS w (.slice ka kn kc) o ib (.slice pva pvn pvc) el ob eb rb w3∧OwnI w1.heap.size (.slice pva pvn pvc) PL w3∧PL.length≤rn∧∀q∈PL,q∈I):=⟨HPS.out.1.next b3,own_below HPS.out.2.1 b3 lRf,HPS.out.2.2⟩
        clear HPS b3 E1;have HCL:Hid (∀W,Below w3.heap.size w3 W→W.cell? ⟨h,0,none⟩=some (.int .i64 act)∧W.cell? ⟨h,1,none⟩=some (.pointer (some ⟨g,0,none⟩))∧W.cell? ⟨h,2,none⟩=some (.slice pa pn pc)∧W.cell? ⟨g,0,none⟩=some (.slice la ln lc)∧W.cell? ⟨g,1,none⟩=some (.slice wa nw wc0)):=fun W hW=>by
         have hB:=HP3.out.1.b.trans (hW.mono HP3.out.1.b.size);have b1:=heap_below HX.out.1 hB lRf;have b2:=heap_below HX.out.2 hB lRf;exact⟨cLo b1 0,cLo b1 1,cLo b1 2,cLo b2 0,cLo b2 1⟩
        obtain⟨x9,hx9⟩:=gNz (n9+(pn:Int):Int);have hwx:IntKind.i64.wrap (n9+(pn:Int))=x9:=by rw[IntWalk.i64_in _ (by have:=HN9.out;have:=HP.out.2.2;omega)];exact hx9
        have HX9:Hid (I64 x9):=by
         have h1:=HN9.out;have h2:=HP.out.2.2;show I64 x9;unfold I64;omega
        clear hx9;go_upto_region 15 with fail
        refine rNh (fun W=>Below w3.heap.size w3 W) ((Below.refl _ _).drew) (fun hHeld=>?_);refine tkC 0 HCL rfl ?_;refine tkC 1 HCL rfl ?_;refine tkC 2 HCL rfl ?_;refine tkC 3 HCL rfl ?_;refine tkC 4 HCL rfl ?_;refine tkC 5 HCL rfl ?_;refine tkC 6 HCL rfl ?_;refine tkC 7 HCL rfl ?_;refine tkC 8 HCL rfl ?_;refine tkC 9 HCL rfl ?_;refine tkC 10 HCL rfl ?_;refine tkC 11 HCL rfl ?_;refine ts 12 rfl (fun K hK=>?_);go_simp;refine hK.out _ _ ((Below.refl w3.heap.size w3).drew.alloc lRf _) (fun hH2=>?_);clear hK K;try simp only[Act.put,nm]
        have HXB:Hid ((w3.alloc (.cells #[.int .i64 x9,.int .i64 act] 49)).drew.heap[w3.heap.size]?=some (.cells #[.int .i64 x9,.int .i64 act] 49)∧Below w3.heap.size w3 (w3.alloc (.cells #[.int .i64 x9,.int .i64 act] 49)).drew):=⟨heap_alloc_new w3 _,(bAl w3 _).drew⟩
        refine ts 13 rfl (fun K hK=>?_);go_simp;refine hK.out _ _ HXB.out.2 (fun hH3=>?_);clear hK K;try simp only[Act.put,nm]
        refine wDn ?_;clear hHeld hH2 hH3;generalize (w3.alloc (.cells #[.int .i64 x9,.int .i64 act] 49)).drew=w4 at *;clear hwx;obtain⟨xb,hxb⟩:=gNz (w3.heap.size);have HXW:w.heap.size≤xb:=by rw[←hxb];exact HP3.out.1.b.size
        have HX0:Hid (w4.heap[xb]?=some (.cells #[.int .i64 x9,.int .i64 act] 49)):=by rw[←hxb];exact HXB.out.1
        rw[hxb];clear hxb;have HXWH:Hid (w.heap.size≤xb):=HXW;clear HXW;have HX4:Hid (w4.heap[xb]?=some (.cells #[.int .i64 x9,.int .i64 act] 49)∧Below w3.heap.size w3 w4∧∀W,Below w4.heap.size w4 W→Below w3.heap.size w3 W):=⟨HX0.out,HXB.out.2,fun W hW=>HXB.out.2.trans (hW.mono HXB.out.2.size)⟩
        go_upto_region 16 with fail
        go_cut [128] from 93 to 127 (fun b wx=>(b=.bool true∨b=.bool false∧Hid (pn<40∧rn≤12))∧Hid (Below w4.heap.size w4 wx∧wx.heap[xb]?=some (.cells #[.int .i64 x9,.int .i64 act] 49)))
        case first=>
         have HQL:Hid (∀W,Below w4.heap.size w4 W→W.cell? ⟨h,1,none⟩=some (.pointer (some ⟨g,0,none⟩))∧W.cell? ⟨h,2,none⟩=some (.slice pa pn pc)∧W.cell? ⟨g,0,none⟩=some (.slice la ln lc)∧W.cell? ⟨g,1,none⟩=some (.slice wa nw wc0)∧W.cell? ⟨xb,0,none⟩=some (.int .i64 x9)):=fun W hW=>by
          obtain⟨_,k1,k2,k3,k4⟩:=HCL.out W (HX4.out.2.2 W hW);exact⟨k1,k2,k3,k4,cLo (heap_below HX4.out.1 hW lRf) 0⟩
         have HD4:Hid (Below w4.heap.size w4 w4.drew∧w4.drew.heap[xb]?=some (.cells #[.int .i64 x9,.int .i64 act] 49)):=⟨(Below.refl _ _).drew,HX4.out.1⟩
         obtain⟨sm,hsm⟩:=gNz ((ln:Int)+(nw:Int):Int);have hws:IntKind.i64.wrap ((ln:Int)+(nw:Int))=sm:=by rw[IntWalk.i64_in _ (by have:=HC.out;omega)];exact hsm
         clear hsm;refine rNh (fun W=>Below w4.heap.size w4 W) ((Below.refl _ _).drew) (fun hHeld=>?_);by_cases h1:(40:Int)≤pn
         ·have hd1:decide ((40:Int)≤pn)=true:=decide_eq_true h1;clear h1;refine tkC 0 HQL rfl ?_;refine tkC 1 HQL rfl ?_;refine tkC 2 HQL rfl ?_;refine tkC 3 HQL rfl ?_;refine tkC 4 HQL rfl ?_;refine tkC 5 HQL rfl ?_;refine tkC 6 HQL rfl ?_;refine sk 7 rfl ?_;refine sk 8 rfl ?_;refine sk 9 rfl ?_;refine tkC 10 HQL rfl ?_;refine tkC 11 HQL rfl ?_;refine sk 12 rfl ?_;refine sk 13 rfl ?_;refine sk 14 rfl ?_;refine tkC 15 HQL rfl ?_;refine tkC 16 HQL rfl ?_;refine sk 17 rfl ?_;refine sk 18 rfl ?_;refine sk 19 rfl ?_;refine sk 20 rfl ?_;refine sk 21 rfl ?_;refine sk 22 rfl ?_;refine sk 23 rfl ?_;refine sk 24 rfl ?_;refine sk 25 rfl ?_;refine sk 26 rfl ?_;refine sk 27 rfl ?_;refine sk 28 rfl ?_;refine sk 29 rfl ?_;refine sk 30 rfl ?_;refine sk 31 rfl ?_;refine sk 32 rfl ?_;refine sk 33 rfl ?_;refine sk 34 rfl ?_;refine tkC 35 HQL rfl ?_;refine wDn ?_;clear hHeld;go_wp2_with fail;go_meet
          case rel=>exact⟨Or.inl rfl,HD4.out⟩
         ·have hd1:decide ((40:Int)≤pn)=false:=decide_eq_false h1;have H1:Hid (¬(40:Int)≤pn):=h1;clear h1;by_cases h2:(12:Int)<rn
          ·have hd2:decide ((12:Int)<rn)=true:=decide_eq_true h2;clear h2;refine tkC 0 HQL rfl ?_;refine tkC 1 HQL rfl ?_;refine tkC 2 HQL rfl ?_;refine tkC 3 HQL rfl ?_;refine tkC 4 HQL rfl ?_;refine tkC 5 HQL rfl ?_;refine tkC 6 HQL rfl ?_;refine tkC 7 HQL rfl ?_;refine tkC 8 HQL rfl ?_;refine tkC 9 HQL rfl ?_;refine tkC 10 HQL rfl ?_;refine tkC 11 HQL rfl ?_;refine sk 12 rfl ?_;refine sk 13 rfl ?_;refine sk 14 rfl ?_;refine tkC 15 HQL rfl ?_;refine tkC 16 HQL rfl ?_;refine sk 17 rfl ?_;refine sk 18 rfl ?_;refine sk 19 rfl ?_;refine sk 20 rfl ?_;refine sk 21 rfl ?_;refine sk 22 rfl ?_;refine sk 23 rfl ?_;refine sk 24 rfl ?_;refine sk 25 rfl ?_;refine sk 26 rfl ?_;refine sk 27 rfl ?_;refine sk 28 rfl ?_;refine sk 29 rfl ?_;refine sk 30 rfl ?_;refine sk 31 rfl ?_;refine sk 32 rfl ?_;refine sk 33 rfl ?_;refine sk 34 rfl ?_;refine tkC 35 HQL rfl ?_;refine wDn ?_;clear hHeld;go_wp2_with fail;go_meet
           case rel=>exact⟨Or.inl rfl,HD4.out⟩
          ·have hd2:decide ((12:Int)<rn)=false:=decide_eq_false h2;have H2:Hid (pn<40∧rn≤12):=⟨by have:=H1.out;omega,by omega⟩
           clear h2;by_cases h3:(1000000:Int)<x9
           ·have hd3:decide ((1000000:Int)<x9)=true:=decide_eq_true h3;clear h3;refine tkC 0 HQL rfl ?_;refine tkC 1 HQL rfl ?_;refine tkC 2 HQL rfl ?_;refine tkC 3 HQL rfl ?_;refine tkC 4 HQL rfl ?_;refine tkC 5 HQL rfl ?_;refine tkC 6 HQL rfl ?_;refine tkC 7 HQL rfl ?_;refine tkC 8 HQL rfl ?_;refine tkC 9 HQL rfl ?_;refine tkC 10 HQL rfl ?_;refine tkC 11 HQL rfl ?_;refine tkC 12 HQL rfl ?_;refine tkC 13 HQL rfl ?_;refine tkC 14 HQL rfl ?_;refine tkC 15 HQL rfl ?_;refine tkC 16 HQL rfl ?_;refine sk 17 rfl ?_;refine sk 18 rfl ?_;refine sk 19 rfl ?_;refine sk 20 rfl ?_;refine sk 21 rfl ?_;refine sk 22 rfl ?_;refine sk 23 rfl ?_;refine sk 24 rfl ?_;refine sk 25 rfl ?_;refine sk 26 rfl ?_;refine sk 27 rfl ?_;refine sk 28 rfl ?_;refine sk 29 rfl ?_;refine sk 30 rfl ?_;refine sk 31 rfl ?_;refine sk 32 rfl ?_;refine sk 33 rfl ?_;refine sk 34 rfl ?_;refine tkC 35 HQL rfl ?_;refine wDn ?_;clear hHeld;go_wp2_with fail;go_meet
            case rel=>exact⟨Or.inl rfl,HD4.out⟩
           ·have hd3:decide ((1000000:Int)<x9)=false:=decide_eq_false h3;clear h3;by_cases h4:(120:Int)≤sm
            ·have hd4:decide ((120:Int)≤sm)=true:=decide_eq_true h4;clear h4;refine tkC 0 HQL rfl ?_;refine tkC 1 HQL rfl ?_;refine tkC 2 HQL rfl ?_;refine tkC 3 HQL rfl ?_;refine tkC 4 HQL rfl ?_;refine tkC 5 HQL rfl ?_;refine tkC 6 HQL rfl ?_;refine tkC 7 HQL rfl ?_;refine tkC 8 HQL rfl ?_;refine tkC 9 HQL rfl ?_;refine tkC 10 HQL rfl ?_;refine tkC 11 HQL rfl ?_;refine tkC 12 HQL rfl ?_;refine tkC 13 HQL rfl ?_;refine tkC 14 HQL rfl ?_;refine tkC 15 HQL rfl ?_;refine tkC 16 HQL rfl ?_;refine tkC 17 HQL rfl ?_;refine tkC 18 HQL rfl ?_;refine tkC 19 HQL rfl ?_;refine tkC 20 HQL rfl ?_;refine tkC 21 HQL rfl ?_;refine tkC 22 HQL rfl ?_;refine tkC 23 HQL rfl ?_;refine tkC 24 HQL rfl ?_;refine tkC 25 HQL rfl ?_;refine tkC 26 HQL rfl ?_;refine tkC 27 HQL rfl ?_;refine tkC 28 HQL rfl ?_;refine tkC 29 HQL rfl ?_;refine tkC 30 HQL rfl ?_;refine tkC 31 HQL rfl ?_;refine tkC 32 HQL rfl ?_;refine tkC 33 HQL rfl ?_;refine tkC 34 HQL rfl ?_;refine tkC 35 HQL rfl ?_;refine wDn ?_;clear hHeld;go_wp2_with fail;go_meet
             case rel=>exact⟨Or.inl rfl,HD4.out⟩
            ·have hd4:decide ((120:Int)≤sm)=false:=decide_eq_false h4;clear h4;refine tkC 0 HQL rfl ?_;refine tkC 1 HQL rfl ?_;refine tkC 2 HQL rfl ?_;refine tkC 3 HQL rfl ?_;refine tkC 4 HQL rfl ?_;refine tkC 5 HQL rfl ?_;refine tkC 6 HQL rfl ?_;refine tkC 7 HQL rfl ?_;refine tkC 8 HQL rfl ?_;refine tkC 9 HQL rfl ?_;refine tkC 10 HQL rfl ?_;refine tkC 11 HQL rfl ?_;refine tkC 12 HQL rfl ?_;refine tkC 13 HQL rfl ?_;refine tkC 14 HQL rfl ?_;refine tkC 15 HQL rfl ?_;refine tkC 16 HQL rfl ?_;refine tkC 17 HQL rfl ?_;refine tkC 18 HQL rfl ?_;refine tkC 19 HQL rfl ?_;refine tkC 20 HQL rfl ?_;refine tkC 21 HQL rfl ?_;refine tkC 22 HQL rfl ?_;refine tkC 23 HQL rfl ?_;refine tkC 24 HQL rfl ?_;refine tkC 25 HQL rfl ?_;refine tkC 26 HQL rfl ?_;refine tkC 27 HQL rfl ?_;refine tkC 28 HQL rfl ?_;refine tkC 29 HQL rfl ?_;refine tkC 30 HQL rfl ?_;refine tkC 31 HQL rfl ?_;refine tkC 32 HQL rfl ?_;refine tkC 33 HQL rfl ?_;refine tkC 34 HQL rfl ?_;refine tkC 35 HQL rfl ?_;refine wDn ?_;clear hHeld;go_wp2_with fail;go_meet
             case rel=>exact⟨Or.inr ⟨rfl,H2.out⟩,HD4.out⟩
        case rest=>
         obtain⟨hbb,HWC⟩:=hcut;have hB3:=HX4.out.2.2 wc HWC.out.1;have HPS:Hid (AS w (.slice ka kn kc) o ib (.slice pva pvn pvc) el ob eb rb wc∧OwnI w1.heap.size (.slice pva pvn pvc) PL wc∧PL.length≤rn∧∀q∈PL,q∈I):=⟨HP3.out.1.next hB3,own_below HP3.out.2.1 hB3 lRf,HP3.out.2.2⟩
         have HXB5:Hid (wc.heap[xb]?=some (.cells #[.int .i64 x9,.int .i64 act] 49)):=HWC.out.2;have HC5:=HCL.out wc hB3;clear hB3 HP3 HX4 HX0 HXB HWC HCL;rcases hbb with rfl | ⟨rfl,HF⟩
         ·obtain⟨r0,r1,-⟩:=cLs HPS.out.1.r;have rf:=fRz HPS.out.1.r 0;have rf1:=fRz HPS.out.1.r 1;clear HC5;have HE:=HBAD.out wc 4 HPS.out.1;have HE1:Hid (_):=HE;have k0:((wc.setCell ⟨rb,0,none⟩ (.int .i64 0)).setCell ⟨rb,1,none⟩ (.int .i64 0)).cell? ⟨rb,0,none⟩=some (.int .i64 0):=by rw[World.cell?_setCell_other _ _ _ _ (by simp)];exact World.cell?_setCell_same _ _ _ r0
          have k1:((wc.setCell ⟨rb,0,none⟩ (.int .i64 0)).setCell ⟨rb,1,none⟩ (.int .i64 0)).cell? ⟨rb,1,none⟩=some (.int .i64 0):=World.cell?_setCell_same _ _ _ (by rw[World.cell?_setCell_other _ _ _ _ (by simp)];exact r1);clear HE;go_wp2_with fail;generalize (wc.setCell ⟨rb,0,none⟩ (.int .i64 0)).setCell ⟨rb,1,none⟩ (.int .i64 0)=w9 at *;exact bodyPost_ret (v:=.tuple #[.agg #[.int .i64 0,.int .i64 0],.int .i64 4]) (by simp[results,Tryz.results58,go_sem,k0,k1]) rfl HE1.out
         ·obtain⟨c0,c1,c2,_,_⟩:=HC5;have hbw:=heap_below HX.out.1 HPS.out.1.b lRf;have rP:wc.ownsRow 0 62 13 (.slice pa pn pc) pn (ocells P):=own_below HP.out.1 HPS.out.1.b lRf;have plt:∀b,(Value.slice pa pn pc).ownBlock=some b→b<w.heap.size:=fun b e=>(HP.out.1.lt b e).2;have b0:Below wc.heap.size wc (wc.drew.alloc (.cells (opA o ib (.slice pva pvn pvc)) 62)):=((Below.refl wc.heap.size wc).drew).alloc lRf _;have rA:=own_below rP b0 lRf;obtain⟨v9,U9,happ,row9,gr9,hv9⟩:=app_gen ofOps 31 (wc.drew.alloc (.cells (opA o ib (.slice pva pvn pvc)) 62)) 0 (Nat.zero_le _) (.slice pa pn pc) (.slice (some ⟨wc.heap.size,0,none⟩) 1 1) _ 1 _ [.int .i64 o.kind,.int .i64 o.obj.1,.int .i64 o.obj.2,.string o.key,.int .i64 o.elem.1,.int .i64 o.elem.2,.bool ib,.int .i64 o.val.k,.int .i64 o.val.n,.string o.val.t,.int .i64 o.val.o,.int .i64 o.val.a,.slice pva pvn pvc] rA (UAt.box (k:=13) (heap_alloc_new wc.drew _) rfl) rfl (fun y hy=>by
           simp only[List.mem_cons,List.not_mem_nil,or_false] at hy;rcases hy with rfl | rfl | rfl | rfl | rfl | rfl | rfl | rfl | rfl | rfl | rfl | rfl | rfl <;> rfl) (by have:=HP.out.2.2;omega)
          have keepG:∀b ob',wc.heap[b]?=some ob'→w.heap.size≤b∨(b=h)→U9.heap[b]?=some ob':=fun b ob' hb hS=>by
           have h1:=heap_below hb b0 lRf;refine(gr9.block b (lt_of_heap h1) (fun e=>?_)).trans h1;rcases hS with hS | rfl
           ·have:=plt b e.symm;omega
           ·exact own_ne_box rP hbw (by decide) e.symm
          have hh9:=keepG h _ hbw (Or.inr rfl);have ho9:=keepG ob _ HPS.out.1.o (Or.inl (by have:=HLO.out;omega));have hx9:=keepG xb _ HXB5.out (Or.inl HXWH.out);have hr9:=keepG rb _ HPS.out.1.r (Or.inl (by have:=HLO.out;omega));have hW7:(U9.setCell ⟨h,2,none⟩ v9).heap[h]?=some (.cells #[.int .i64 act,.pointer (some ⟨g,0,none⟩),v9] 68):=by rw[set_at hh9 2 v9];rfl
          have hr7:(U9.setCell ⟨h,2,none⟩ v9).heap[rb]?=some (.cells #[.int .i64 0,.int .i64 0] 49):=heap_set_other hr9 (cells_apart hr9 hh9 (by decide));have hx7:(U9.setCell ⟨h,2,none⟩ v9).heap[xb]?=some (.cells #[.int .i64 x9,.int .i64 act] 49):=heap_set_other hx9 (cells_apart hx9 hh9 (by decide));have hne:h≠rb:=cells_apart hh9 hr9 (by decide);have HFINAL:Hid (post (.returned (.tuple #[.agg #[.int .i64 x9,.int .i64 act],.int .i64 0])) (((U9.setCell ⟨h,2,none⟩ v9).setCell ⟨rb,0,none⟩ (.int .i64 x9)).setCell ⟨rb,1,none⟩ (.int .i64 act))):=by
           show post _ _;rw[HPO.out];have hsame:∀k,k≠h→k≠rb→(((U9.setCell ⟨h,2,none⟩ v9).setCell ⟨rb,0,none⟩ (.int .i64 x9)).setCell ⟨rb,1,none⟩ (.int .i64 act)).heap[k]?=U9.heap[k]?:=fun k k1 k2=>by
            rw[Below.heap_setCell _ _ _ _ (by simpa using k2),Below.heap_setCell _ _ _ _ (by simpa using k2),Below.heap_setCell _ _ _ _ (by simpa using k1)]
           have K1:KpS (fun b=>b=h∨(Value.slice pa pn pc).ownBlock=some b∨w.heap.size≤b) w (wc.drew.alloc (.cells (opA o ib (.slice pva pvn pvc)) 62)):=(KpS.of HPS.out.1.b).trans ((KpS.of b0).mono fun k hk hS=>hS);have K2:=K1.trans (KpS.grown (fun b e=>Or.inr (Or.inl e)) gr9);have hrbw:w.heap.size≤rb:=by have:=HLO.out;omega
           have K3:=((K2.trans (KpS.set (g:=h) (i:=2) v9 (Or.inl rfl))).trans (KpS.set (g:=rb) (i:=0) (.int .i64 x9) (Or.inr (Or.inr hrbw)))).trans (KpS.set (g:=rb) (i:=1) (.int .i64 act) (Or.inr (Or.inr hrbw)));refine⟨_,_,_,rfl,⟨HX9.out,HACT.out.1⟩,Or.inr ⟨v9,.slice pva pvn pvc,PL,K3,?_,?_,?_,?_,?_,HPS.out.2.2.2,by have:=HF.out;have:=HP.out;omega⟩⟩
           ·rw[Below.heap_setCell _ _ _ _ (by simpa using hne),Below.heap_setCell _ _ _ _ (by simpa using hne)];exact hW7
           ·have e:P.length+1=(P++[({o with preds:=PL},Value.slice pva pvn pvc)]).length:=by simp
            have h1:U9.ownsRow 0 62 13 v9 (P++[({o with preds:=PL},Value.slice pva pvn pvc)]).length (ocells (P++[({o with preds:=PL},Value.slice pva pvn pvc)])):=by
             rw[←e,ocells_append,HP.out.2.1];have e2:ocells [({o with preds:=PL},Value.slice pva pvn pvc)]=[.int .i64 o.kind,.int .i64 o.obj.1,.int .i64 o.obj.2,.string o.key,.int .i64 o.elem.1,.int .i64 o.elem.2,.bool ib,.int .i64 o.val.k,.int .i64 o.val.n,.string o.val.t,.int .i64 o.val.o,.int .i64 o.val.a,.slice pva pvn pvc]:=by
              rw[←HIB.out];rfl
             rw[e2];exact row9
            exact own_stay h1 fun k hk=>hsame k (fun e=>own_ne_box row9 hh9 (by decide) (e▸hk)) (fun e=>own_ne_box row9 hr9 (by decide) (e▸hk))
           ·rcases hv9 with e | e
            ·exact Or.inl e
            ·exact Or.inr ⟨_,e,Nat.le_trans HPS.out.1.b.size b0.size⟩
           ·have h1:=row_other (own_below HPS.out.2.1 b0 lRf) rA (by decide) gr9;refine own_mono (own_stay h1 fun k hk=>hsame k (fun e=>own_ne_box h1 hh9 (by decide) (e▸hk)) (fun e=>?_)) HW1.out.1;have h2:=(h1.lt k hk).1;have:=HW1.out.2.2.2;omega
           ·have:=HPS.out.2.2.1;have:=HF.out.2;omega
          have k0:(((U9.setCell ⟨h,2,none⟩ v9).setCell ⟨rb,0,none⟩ (.int .i64 x9)).setCell ⟨rb,1,none⟩ (.int .i64 act)).cell? ⟨rb,0,none⟩=some (.int .i64 x9):=by rw[World.cell?_setCell_other _ _ _ _ (by simp)];exact World.cell?_setCell_same _ _ _ (cLo hr7 0)
          have k1:(((U9.setCell ⟨h,2,none⟩ v9).setCell ⟨rb,0,none⟩ (.int .i64 x9)).setCell ⟨rb,1,none⟩ (.int .i64 act)).cell? ⟨rb,1,none⟩=some (.int .i64 act):=World.cell?_setCell_same _ _ _ (by rw[World.cell?_setCell_other _ _ _ _ (by simp)];exact cLo hr7 1);have t0:(U9.setCell ⟨h,2,none⟩ v9).cell? ⟨rb,0,none⟩=some (.int .i64 0):=cLo hr7 0;have t1:(U9.setCell ⟨h,2,none⟩ v9).cell? ⟨rb,1,none⟩=some (.int .i64 0):=cLo hr7 1;have t2:=fRz hr7 0;have t3:=fRz hr7 1;have t4:(U9.setCell ⟨h,2,none⟩ v9).cell? ⟨xb,0,none⟩=some (.int .i64 x9):=cLo hx7 0;have t5:(U9.setCell ⟨h,2,none⟩ v9).cell? ⟨xb,1,none⟩=some (.int .i64 act):=cLo hx7 1;obtain⟨-,-,n2,-⟩:=cLs hh9;have nf:=fRz hh9 2;have HS8:Hid ((∀W:World,W.heap[h]?=some (.cells #[.int .i64 act,.pointer (some ⟨g,0,none⟩),.slice pa pn pc] 68)∧W.heap[ob]?=some (.cells (opA o ib (.slice pva pvn pvc)) 62)→W.cell? ⟨h,2,none⟩=some (.slice pa pn pc)∧W.cell? ⟨ob,0,none⟩=some (.int .i64 o.kind)∧W.cell? ⟨ob,1,none⟩=some (.int .i64 o.obj.1)∧W.cell? ⟨ob,2,none⟩=some (.int .i64 o.obj.2)∧W.cell? ⟨ob,3,none⟩=some (.string o.key)∧W.cell? ⟨ob,4,none⟩=some (.int .i64 o.elem.1)∧W.cell? ⟨ob,5,none⟩=some (.int .i64 o.elem.2)∧W.cell? ⟨ob,6,none⟩=some (.bool ib)∧W.cell? ⟨ob,7,none⟩=some (.int .i64 o.val.k)∧W.cell? ⟨ob,8,none⟩=some (.int .i64 o.val.n)∧W.cell? ⟨ob,9,none⟩=some (.string o.val.t)∧W.cell? ⟨ob,10,none⟩=some (.int .i64 o.val.o)∧W.cell? ⟨ob,11,none⟩=some (.int .i64 o.val.a)∧W.cell? ⟨ob,12,none⟩=some (.slice pva pvn pvc))∧((wc.drew.alloc (.cells (opA o ib (.slice pva pvn pvc)) 62)).heap[h]?=some (.cells #[.int .i64 act,.pointer (some ⟨g,0,none⟩),.slice pa pn pc] 68)∧(wc.drew.alloc (.cells (opA o ib (.slice pva pvn pvc)) 62)).heap[ob]?=some (.cells (opA o ib (.slice pva pvn pvc)) 62))∧(U9.heap[h]?=some (.cells #[.int .i64 act,.pointer (some ⟨g,0,none⟩),.slice pa pn pc] 68)∧U9.heap[ob]?=some (.cells (opA o ib (.slice pva pvn pvc)) 62))):=⟨fun W hW=>⟨cLo hW.1 2,cLo hW.2 0,cLo hW.2 1,cLo hW.2 2,cLo hW.2 3,cLo hW.2 4,cLo hW.2 5,cLo hW.2 6,cLo hW.2 7,cLo hW.2 8,cLo hW.2 9,cLo hW.2 10,cLo hW.2 11,cLo hW.2 12⟩,⟨heap_below hbw b0 lRf,heap_below HPS.out.1.o b0 lRf⟩,hh9,ho9⟩
          have hHeld:wc.drew.heap[h]?=some (.cells #[.int .i64 act,.pointer (some ⟨g,0,none⟩),.slice pa pn pc] 68)∧wc.drew.heap[ob]?=some (.cells (opA o ib (.slice pva pvn pvc)) 62):=⟨hbw,HPS.out.1.o⟩
          obtain⟨v9a,v9c,ev9⟩:=own_form row9;obtain⟨v9n,hv9n⟩:=gNz (pn+1);rw[hv9n] at ev9;subst ev9;clear hv9n hbw rP plt b0 rA row9 gr9 hv9 keepG hh9 ho9 hx9 hr9 hW7 hr7 hx7 hne;go_upto_region 18 with fail
          refine wp_region_noPanic ?_;refine early_begin (S:=fun W=>W.heap[h]?=some (.cells #[.int .i64 act,.pointer (some ⟨g,0,none⟩),.slice pa pn pc] 68)∧W.heap[ob]?=some (.cells (opA o ib (.slice pva pvn pvc)) 62)) (late:=fun k=>decide (8≤k)) (by kernel_rfl) ?_;refine ek 0 rfl ?_ (by intro wz hSw;obtain⟨z0,z1,z2,z3,z4,z5,z6,z7,z8,z9,z10,z11,z12,z13⟩:=HS8.out.1 wz hSw;go_simp;try with_reducible rfl);refine ek 1 rfl ?_ (by intro wz hSw;obtain⟨z0,z1,z2,z3,z4,z5,z6,z7,z8,z9,z10,z11,z12,z13⟩:=HS8.out.1 wz hSw;go_simp;try with_reducible rfl);refine ek 2 rfl ?_ (by intro wz hSw;obtain⟨z0,z1,z2,z3,z4,z5,z6,z7,z8,z9,z10,z11,z12,z13⟩:=HS8.out.1 wz hSw;go_simp;try with_reducible rfl);refine ek 3 rfl ?_ (by intro wz hSw;obtain⟨z0,z1,z2,z3,z4,z5,z6,z7,z8,z9,z10,z11,z12,z13⟩:=HS8.out.1 wz hSw;go_simp;try with_reducible rfl);refine ek 4 rfl ?_ (by intro wz hSw;obtain⟨z0,z1,z2,z3,z4,z5,z6,z7,z8,z9,z10,z11,z12,z13⟩:=HS8.out.1 wz hSw;go_simp;try with_reducible rfl);refine ek 5 rfl ?_ (by intro wz hSw;obtain⟨z0,z1,z2,z3,z4,z5,z6,z7,z8,z9,z10,z11,z12,z13⟩:=HS8.out.1 wz hSw;go_simp;try with_reducible rfl);refine es 6 rfl (fun K hK=>?_);go_simp;refine hK.out _ _ (fun _=>HS8.out.2.1) ?_;clear hK K;try simp only[Act.put,nm]
          refine es 7 rfl (fun K hK=>?_);refine step_app rfl (.tmp 134) (.tmp 136) 31 rfl _ _ _ U9 (by simp[Act.eval]) (by simp[Act.eval]) happ ?_;refine hK.out _ _ (fun _=>HS8.out.2.2) ?_;clear hK K;try simp only[Act.put,nm]
          refine es 8 rfl (fun K hK=>?_);go_simp;refine hK.out _ _ (fun h=>absurd h (by decide)) ?_;clear hK K;try simp only[Act.put,nm]
          refine es 9 rfl (fun K hK=>?_);go_simp;refine hK.out _ _ (fun h=>absurd h (by decide)) ?_;clear hK K;try simp only[Act.put,nm]
          refine es 10 rfl (fun K hK=>?_);go_simp;refine hK.out _ _ (fun h=>absurd h (by decide)) ?_;clear hK K;try simp only[Act.put,nm]
          refine early_done (by kernel_rfl) ?_ _;refine NoPanic.normal ?_;clear hHeld happ n2 nf c0 c1 c2 HS8;generalize U9.setCell ⟨h,2,none⟩ (.slice v9a v9n v9c)=w7 at *;go_wp2_with fail;generalize (w7.setCell ⟨rb,0,none⟩ (.int .i64 x9)).setCell ⟨rb,1,none⟩ (.int .i64 act)=w9 at *;exact bodyPost_ret (v:=.tuple #[.agg #[.int .i64 x9,.int .i64 act],.int .i64 0]) (by simp[results,Tryz.results58,go_sem,k0,k1]) rfl HFINAL.out
end Go.Proofs.YtamhlgflbacjgaaGreat
