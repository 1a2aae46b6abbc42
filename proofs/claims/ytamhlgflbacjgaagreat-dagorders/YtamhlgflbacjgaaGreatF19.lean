/-
  What is proved: as each theorem says.
  Conditions: as each theorem says.
-/
import Derived.Test.YtamhlgflbacjgaaGreatF00
import Derived.Test.YtamhlgflbacjgaaGreatF13
import Derived.Test.YtamhlgflbacjgaaGreatF04
import Derived.Test.YtamhlgflbacjgaaGreatF18
import Derived.Test.YtamhlgflbacjgaaGreatF14
import Derived.Test.YtamhlgflbacjgaaGreatF15
import Derived.Deep.RegionHeld3
import Derived.Handy
set_option maxRecDepth 100000
set_option maxHeartbeats 16000000
namespace Go.Proofs.YtamhlgflbacjgaaGreat
open Go.RowKit Go.Sort
theorem take_snocE {α:Type} (l:List α) (k:Nat) (h:k<l.length):l.take (k+1)=l.take k++[l[k]]:=by rw[List.take_succ_eq_append_getElem h]
theorem lastSeqX_any (v:Value) (l:List CX) (act:Int) (w:World) (hv:IsChgs w v l):
 Calls Tryz.prog 75 #[v,.int .i64 act] w fun e w'=>(∃x,e=.returned (.int .i64 x)∧Hid (I64 x∧x=seqM (l.map (·.c)) act))∧Below w.heap.size w w':=by
 obtain⟨a,cap,rfl,h1,h2,hr,h3⟩:=hv;have H3:=hY2 hr h3;have HZ:Hid (l.length≤1000000):=h2;clear h3 hr h1 h2;go_enter Tryz.func75,Tryz.ntmps75
 go_wp2_with fail;go_loopw [5,10] (fun s i wr=>∃(k:Nat) (x:Int),k≤l.length∧i=.int .i64 k∧s=.int .i64 x∧Hid (I64 x∧x=seqM ((l.take k).map (·.c)) act)∧Below w.heap.size w wr) (fun _ i _=>l.length - (RowKit.intOf i).toNat)
 case atStart=>exact⟨0,0,Nat.zero_le _,rfl,rfl,⟨by unfold I64;omega,rfl⟩,Below.refl _ _⟩
 case round=>
  obtain⟨k,x,hk,rfl,rfl,hx,hbel⟩:=hrel;by_cases hlt:k<l.length
  ·obtain⟨b,off,rfl,h4,h5⟩:=H3.out.2 (fun e=>by rw[e] at hlt;simp at hlt);obtain⟨⟨i1,i2,i3⟩,d,dn,dc,o,om,oe,e1,e2⟩:=CX.form (H3.out.1 l[k] (List.getElem_mem hlt));obtain⟨q,hq⟩:=gNz (l[k]:CX);have hc:∀j,j<5→wr.cell? ⟨b,off+k*5+j,none⟩=q.cells[j]?:=fun j hj=>by rw[hbel.cell (p:=⟨b,off+k*5+j,none⟩) h4,←hq];exact h5 k hlt j hj
   rw[hq] at i1 i2 i3 e1 e2;have x0:wr.cell? ⟨b,off+k*5,none⟩=some (.int .i64 q.c.actor):=hc 0 (by omega);have x1:wr.cell? ⟨b,off+k*5+1,none⟩=some (.int .i64 q.c.seq):=hc 1 (by omega);have x2:wr.cell? ⟨b,off+k*5+2,none⟩=some (.int .i64 q.c.start):=hc 2 (by omega);have x3:wr.cell? ⟨b,off+k*5+3,none⟩=some (.slice d dn dc):=by rw[←e1];exact hc 3 (by omega)
   have x4:wr.cell? ⟨b,off+k*5+4,none⟩=some (.slice o om oe):=by rw[←e2];exact hc 4 (by omega)
   have g1:(k:Int)<l.length:=by omega
   have g2:(k:Int)<1000000:=by have:=HZ.out;omega
   have HK:=hY2 hlt i2;have HB:Hid (∀o,Below w.heap.size w (wr.alloc o)):=fun o=>hbel.alloc hbel.size o;obtain⟨qa,hqa⟩:=gNz (q.c.actor:Int);obtain⟨qs,hqs⟩:=gNz (q.c.seq:Int);rw[hqa] at x0;rw[hqs] at x1 HK;have HQ:Hid ((if qa=act then (if x≤qs then qs else x) else x)=seqM ((l.take (k+1)).map (·.c)) act):=by
    show _=_;rw[take_snocE l k hlt,List.map_append,List.map_cons,List.map_nil,seqM_snoc,←hx.out.2,hq,hqa,hqs]
   clear h5 hk hbel hlt hc hq i1 i2 i3 e1 e2 hqa hqs;by_cases ha:qa=act
   ·have hab:(qa==act)=true:=by simp[ha]
    by_cases hm:x≤qs
    ·go_wp2;go_roundw
     case rel=>exact⟨k+1,qs,HK.out.1,by go_num,by first | rfl | simp[max_def,hm] | (congr 1;omega),⟨HK.out.2,by rw[←HQ.out,if_pos ha,if_pos hm]⟩,HB.out _⟩
     case measure=>simp[RowKit.intOf];have:=HK.out;omega
    ·go_wp2;go_roundw
     case rel=>exact⟨k+1,x,HK.out.1,by go_num,by first | rfl | (congr 1;omega),⟨hx.out.1,by rw[←HQ.out,if_pos ha,if_neg hm]⟩,HB.out _⟩
     case measure=>simp[RowKit.intOf];have:=HK.out;omega
   ·have hab:(qa==act)=false:=by simp[ha]
    go_wp2;go_roundw
    case rel=>exact⟨k+1,x,HK.out.1,by go_num,rfl,⟨hx.out.1,by rw[←HQ.out,if_neg ha]⟩,HB.out _⟩
    case measure=>simp[RowKit.intOf];have:=HK.out;omega
  ·have hke:k=l.length:=by omega
   have HB:Hid (Below w.heap.size w wr):=hbel;clear hlt hk hbel;subst hke;go_wp2;go_ret;exact⟨⟨x,rfl,hx.out.1,by rw[hx.out.2,List.take_length]⟩,HB.out⟩
theorem lastNumX_any (v:Value) (l:List CX) (w:World) (hv:IsChgs w v l) (hsm:∀x∈l,SmallC x.c):
 Calls Tryz.prog 76 #[v] w fun e w'=>(∃x,e=.returned (.int .i64 x)∧Hid (I64 x∧x=numM (l.map (·.c))))∧Below w.heap.size w w':=by
 obtain⟨a,cap,rfl,h1,h2,hr,h3⟩:=hv;have H3:=hY2 hr h3;have HZ:Hid (l.length≤1000000):=h2;have HSM:Hid (∀x∈l,SmallC x.c):=hsm;clear hsm;clear h3 hr h1 h2;go_enter Tryz.func76,Tryz.ntmps76
 go_wp2_with fail;go_loopw [3,8] (fun s i wr=>∃(k:Nat) (x:Int),k≤l.length∧i=.int .i64 k∧s=.int .i64 x∧Hid (I64 x∧x=numM ((l.take k).map (·.c)))∧Below w.heap.size w wr) (fun _ i _=>l.length - (RowKit.intOf i).toNat)
 case atStart=>exact⟨0,0,Nat.zero_le _,rfl,rfl,⟨by unfold I64;omega,rfl⟩,Below.refl _ _⟩
 case round=>
  obtain⟨k,x,hk,rfl,rfl,hx,hbel⟩:=hrel;by_cases hlt:k<l.length
  ·obtain⟨b,off,rfl,h4,h5⟩:=H3.out.2 (fun e=>by rw[e] at hlt;simp at hlt);obtain⟨⟨i1,i2,i3⟩,d,dn,dc,o,om,oe,e1,e2⟩:=CX.form (H3.out.1 l[k] (List.getElem_mem hlt));obtain⟨q,hq⟩:=gNz (l[k]:CX);have hc:∀j,j<5→wr.cell? ⟨b,off+k*5+j,none⟩=q.cells[j]?:=fun j hj=>by rw[hbel.cell (p:=⟨b,off+k*5+j,none⟩) h4,←hq];exact h5 k hlt j hj
   rw[hq] at i1 i2 i3 e1 e2;have x0:wr.cell? ⟨b,off+k*5,none⟩=some (.int .i64 q.c.actor):=hc 0 (by omega);have x1:wr.cell? ⟨b,off+k*5+1,none⟩=some (.int .i64 q.c.seq):=hc 1 (by omega);have x2:wr.cell? ⟨b,off+k*5+2,none⟩=some (.int .i64 q.c.start):=hc 2 (by omega);have x3:wr.cell? ⟨b,off+k*5+3,none⟩=some (.slice d dn dc):=by rw[←e1];exact hc 3 (by omega)
   have x4:wr.cell? ⟨b,off+k*5+4,none⟩=some (.slice o om oe):=by rw[←e2];exact hc 4 (by omega)
   have g1:(k:Int)<l.length:=by omega
   have g2:(k:Int)<1000000:=by have:=HZ.out;omega
   have HK:=hY2 hlt i2;have HB:Hid (∀o,Below w.heap.size w (wr.alloc o)):=fun o=>hbel.alloc hbel.size o;obtain⟨qs,hqs⟩:=gNz (q.c.start:Int);rw[hqs] at x2;have hoq:om=q.c.ops.length:=by
    obtain⟨ud,uo,ll,f1,_,_,_,_,f6,f7⟩:=H3.out.1 l[k] (List.getElem_mem hlt);rw[hq] at f1 f7;simp at f1;obtain⟨a',c',g1,_,g2,_⟩:=f6;rw[←f1.2,e2] at g1;have g3:=(Value.slice.inj g1).2.1;rw[←f7,List.length_map];exact g3
   have hsq:SmallC q.c:=by rw[←hq];exact HSM.out _ (List.getElem_mem hlt)
   have hom:(om:Int)≤1099511627776:=by
    obtain⟨ud,uo,ll,f1,_,_,_,_,f6,_⟩:=H3.out.1 l[k] (List.getElem_mem hlt);rw[hq] at f1;simp at f1;obtain⟨a',c',g1,_,g2,_⟩:=f6;rw[←f1.2,e2] at g1;have g3:=(Value.slice.inj g1).2.1;omega
   have HQ:Hid ((if om=0 then x else if x≤wrap64 (wrap64 (qs+om) - 1) then wrap64 (wrap64 (qs+om) - 1) else x)=numM ((l.take (k+1)).map (·.c))):=by
    show _=_;obtain⟨s1,s2,s3⟩:=hsq;have e9:wrap64 (wrap64 (qs+om) - 1)=qs+om - 1:=by
     rw[←hqs];unfold wrap64;omega
    rw[take_snocE l k hlt,List.map_append,List.map_cons,List.map_nil,numM_snoc,←hx.out.2,hq,hqs,←hoq,e9]
   clear h5 hk hbel hlt hc hq i1 i2 i3 e1 e2 hqs hoq hsq;have hw:I64 (wrap64 (wrap64 (qs+om) - 1)):=i64_wrap _;obtain⟨y,hy⟩:=gNz (wrap64 (wrap64 (qs+om) - 1):Int);rw[hy] at hw HQ;have HW:Hid (I64 y):=hw;clear hw;by_cases ho:om=0
   ·subst ho;go_wp2;go_roundw
    case rel=>exact⟨k+1,x,HK.out.1,by go_num,rfl,⟨hx.out.1,by rw[←HQ.out,if_pos rfl]⟩,HB.out _⟩
    case measure=>simp[RowKit.intOf];have:=HK.out;omega
   ·have ho1:0<om:=by omega
    have ho2:(0:Int)<om:=by omega
    by_cases hm:x≤y
    ·go_wp2;go_roundw
     case rel=>exact⟨k+1,y,HK.out.1,by go_num,by first | rfl | (congr 1;omega),⟨HW.out,by rw[←HQ.out,if_neg ho,if_pos hm]⟩,HB.out _⟩
     case measure=>simp[RowKit.intOf];have:=HK.out;omega
    ·go_wp2;go_roundw
     case rel=>exact⟨k+1,x,HK.out.1,by go_num,by first | rfl | (congr 1;omega),⟨hx.out.1,by rw[←HQ.out,if_neg ho,if_neg hm]⟩,HB.out _⟩
     case measure=>simp[RowKit.intOf];have:=HK.out;omega
  ·have hke:k=l.length:=by omega
   have HB:Hid (Below w.heap.size w wr):=hbel;clear hlt hk hbel;subst hke;go_wp2;go_ret;exact⟨⟨x,rfl,hx.out.1,by rw[hx.out.2,List.take_length]⟩,HB.out⟩
def kes (c:Chg) (lo:List OV):List KE:=lo.zipIdx.map fun p=>(p.1,(c.start+(p.2:Int),c.actor))
theorem kes_len (c:Chg) (lo:List OV):(kes c lo).length=lo.length:=by unfold kes;simp
theorem kes_at (c:Chg) (lo:List OV) (k:Nat) (h:k<(kes c lo).length):(kes c lo)[k]=(lo[k]'(by rw[kes_len] at h;exact h),(c.start+(k:Int),c.actor)):=by
 have hk:k<lo.length:=by rw[kes_len] at h;exact h
 have h2:(kes c lo)[k]?=some (lo[k],(c.start+(k:Int),c.actor)):=by
  unfold kes;rw[List.getElem?_map,List.getElem?_zipIdx,List.getElem?_eq_getElem hk];simp
 exact Option.some.inj ((List.getElem?_eq_getElem h).symm.trans h2)
theorem keM_append (a b:List KE):keM (a++b)=keM a++keM b:=by unfold keM;simp
theorem keM_kes (c:Chg) (lo:List OV) (h:lo.map (·.1)=c.ops):keM (kes c lo)=opsC c:=by
 unfold keM kes opsC;rw[←h,List.map_map,List.zipIdx_map,List.map_map];rfl
def kall (f:CX→List OV) (O:List Pr) (l:List CX):List KE:=(l.filter fun x=>decide (x.c.ref∈O)).flatMap fun x=>kes x.c (f x)
theorem kall_snoc (f:CX→List OV) (O:List Pr) (l:List CX) (x:CX):kall f O (l++[x])=kall f O l++(if x.c.ref∈O then kes x.c (f x) else []):=by
 unfold kall;rw[List.filter_append,List.flatMap_append];by_cases h:x.c.ref∈O
 ·rw[if_pos h];simp[h]
 ·rw[if_neg h];simp[h]
theorem kall_mem {f:CX→List OV} {O:List Pr} {l:List CX} {q:KE} (h:q∈kall f O l):∃x∈l,q.1∈f x:=by
 unfold kall at h;obtain⟨x,hx,hq⟩:=List.mem_flatMap.1 h;refine⟨x,(List.mem_filter.1 hx).1,?_⟩;unfold kes at hq;obtain⟨p,hp,rfl⟩:=List.mem_map.1 hq;exact(List.mem_zipIdx' hp).2▸List.getElem_mem _
theorem keM_kall (f:CX→List OV) (O:List Pr):∀(l:List CX),(∀x∈l,(f x).map (·.1)=x.c.ops)→keM (kall f O l)=opsK (subL (l.map (·.c)) O)
 | [],_=>rfl
 | x::l,h=>by
  have ih:=keM_kall f O l (fun y hy=>h y (List.mem_cons_of_mem _ hy));unfold kall subL at ih ⊢;rw[List.map_cons,List.filter_cons,List.filter_cons];by_cases hx:x.c.ref∈O
  ·rw[if_pos (by simpa using hx),if_pos (by simpa using hx),List.flatMap_cons,keM_append,keM_kes x.c (f x) (h x (List.mem_cons_self ..)),ih];rfl
  ·rw[if_neg (by simpa using hx),if_neg (by simpa using hx)];exact ih
theorem kall_len (f:CX→List OV) (O:List Pr):∀(l:List CX),(∀x∈l,(f x).length≤40)→(kall f O l).length≤40*l.length
 | [],_=>by simp[kall]
 | x::l,h=>by
  have ih:=kall_len f O l (fun y hy=>h y (List.mem_cons_of_mem _ hy));have h0:=h x (List.mem_cons_self ..);unfold kall at ih ⊢;rw[List.filter_cons,List.length_cons];by_cases hx:x.c.ref∈O
  ·rw[if_pos (by simpa using hx),List.flatMap_cons,List.length_append,kes_len];omega
  ·rw[if_neg (by simpa using hx)];omega
theorem rOps_any (v vr:Value) (l:List CX) (O:List Pr) (f:CX→List OV) (w:World) (hv:IsChgs w v l) (hf:∀x∈l,IsOps w x.uo (f x)∧(f x).map (·.1)=x.c.ops) (hsm:∀x∈l,SmallC x.c) (hr:IsPairs w vr O) (hl:l.length≤1000):
 Calls Tryz.prog 97 #[v,vr] w fun e w'=>(∃u,e=.returned u∧RowK w.heap.size u (kall f O l) w')∧Below w.heap.size w w':=by
 obtain⟨la,ln,lc,rfl⟩:∃a n c,v=.slice a n c:=by obtain⟨a,c,e,_⟩:=hv;exact⟨_,_,_,e⟩
 obtain⟨qa,qn,qc,rfl⟩:∃a n c,vr=.slice a n c:=by obtain⟨a,c,e,_⟩:=hr;exact⟨_,_,_,e⟩
 have HV:=hY5 hv hf hsm hr hl;obtain⟨HLN⟩:Nonempty (Hid (ln=l.length)):=⟨by obtain⟨a,c,e,_⟩:=hv;exact(Value.slice.inj e).2.1⟩
 have H40:Hid (∀x∈l,(f x).length≤40):=fun x hx=>by
  have h1:=congrArg List.length (hf x hx).2;rw[List.length_map] at h1;have:=(hsm x hx).2.2;omega
 clear hv hf hsm hr hl;go_enter Tryz.func97,Tryz.ntmps97
 go_wp2_with fail;go_loopw [5,6] (fun xo xi wr=>∃(i:Nat) (vo:Value),i≤l.length∧xi=.int .i64 i∧vo=xo∧Hid (RowK w.heap.size vo (kall f O (l.take i)) wr∧Below w.heap.size w wr)) (fun _ xi _=>l.length - (RowKit.intOf xi).toNat)
 case atStart=>exact⟨0,_,Nat.zero_le _,rfl,rfl,World.ownsRow_nil _ _ _ _,Below.refl _ _⟩
 case round=>
  obtain⟨i,vo,hi,rfl,rfl,hR⟩:=hrel;by_cases hlt:i<l.length
  ·obtain⟨a',c',e9,_,_,hIn,h4⟩:=id HV.out.1;obtain⟨cb,co,ha',h5,h6⟩:=h4 (fun e=>by rw[e] at hlt;simp at hlt);have hla:la=some ⟨cb,co,none⟩:=(Value.slice.inj e9).1.trans ha';obtain⟨x,hx⟩:=gNz (l[i]:CX);have hxl:x∈l:=by rw[←hx];exact List.getElem_mem hlt
   obtain⟨_,dd,dn,dc,uo,um,ue,eud,euo⟩:=CX.form (hIn x hxl);have hum:um=(f x).length:=by
    obtain⟨a8,c8,e8,_⟩:=(HV.out.2.1 x hxl).1;rw[euo] at e8;exact(Value.slice.inj e8).2.1
   obtain⟨ca,hca⟩:=gNz (x.c.actor:Int);obtain⟨cs,hcs⟩:=gNz (x.c.seq:Int);obtain⟨ct,hct⟩:=gNz (x.c.start:Int);have HCC:Hid (∀W,Below w.heap.size w W→W.cell? ⟨cb,co+i*5,none⟩=some (.int .i64 ca)∧W.cell? ⟨cb,co+i*5+1,none⟩=some (.int .i64 cs)∧W.cell? ⟨cb,co+i*5+2,none⟩=some (.int .i64 ct)∧W.cell? ⟨cb,co+i*5+3,none⟩=some (.slice dd dn dc)∧W.cell? ⟨cb,co+i*5+4,none⟩=some (.slice uo um ue)):=fun W hW=>by
    have hc:∀j,j<5→W.cell? ⟨cb,co+i*5+j,none⟩=x.cells[j]?:=fun j hj=>by rw[hW.cell (p:=⟨cb,co+i*5+j,none⟩) h5,←hx];exact h6 i hlt j hj
    refine⟨?_,?_,?_,?_,?_⟩
    ·rw[←hca];exact hc 0 (by omega)
    ·rw[←hcs];exact hc 1 (by omega)
    ·rw[←hct];exact hc 2 (by omega)
    ·rw[←eud];exact hc 3 (by omega)
    ·rw[←euo];exact hc 4 (by omega)
   subst hla;have HX:=hY7 (⟨hlt,hx⟩:(∃h:i<l.length,l[i]=x)) hxl hum hca ((by unfold Chg.ref;rw[hca,hcs]):x.c.ref=(ca,cs)) hct euo;have HR:Hid (RowK w.heap.size vo (kall f O (l.take i)) wr∧Below w.heap.size w wr):=hR;obtain⟨x0,x1,x2,x3,x4⟩:=HCC.out wr hR.out.2;have g1:(i:Int)<ln:=by have:=HLN.out;omega
   have g3:(0:Int)≤i:=by omega
   have E1:=rRefC_any ca cs ct dd dn dc uo um ue wr;clear e9 hIn h4 ha' h5 h6 hx hxl eud euo hum hca hcs hct hi hlt hR;go_wp2_with fail;go_fit E1;rintro e w1 ⟨rfl,b1⟩;clear E1 x0 x1 x2 x3 x4;have B1:Hid (Below w.heap.size w w1):=HR.out.2.trans (b1.mono HR.out.2.size);have E2:=rHas_any (.slice qa qn qc) O (ca,cs) w1 (HV.out.2.2.2.1.below B1.out);obtain⟨hb,hhb⟩:=gNz (decide ((ca,cs)∈O):Bool);rw[hhb] at E2;have HHB:Hid (decide ((ca,cs)∈O)=hb):=hhb;unfold refV at E2;have HB1:Hid (Below wr.heap.size wr w1):=b1;clear b1 hhb;go_wp2_with fail;go_fit E2;rintro e w2 ⟨rfl,b2⟩;clear E2;have HR2:=hY2 (own_below (own_below HR.out.1 HB1.out lRf) b2 lRf) (B1.out.trans (b2.mono B1.out.size));clear b2 HR HB1 B1;have HT:Hid (kall f O (l.take (i+1))=kall f O (l.take i)++(if (ca,cs)∈O then kes x.c (f x) else [])):=by
    obtain⟨⟨h,e⟩,_,_,_,er,_⟩:=HX.out;show _=_;rw[take_snocE l i h,e,kall_snoc,er]
   cases hb with
   | false=>
    have HK:Hid (RowK w.heap.size vo (kall f O (l.take (i+1))) w2):=by
     show RowK _ _ _ _;rw[HT.out,if_neg (of_decide_eq_false HHB.out),List.append_nil];exact HR2.out.1
    clear HT HHB;go_upto_region 4 with fail
    have g2:(i:Int)<1000:=by obtain⟨⟨h,_⟩,_⟩:=HX.out;have:=HV.out.2.2.2.2;omega
    go_wp2;go_roundw
    case rel=>obtain⟨⟨h,_⟩,_⟩:=HX.out;exact⟨i+1,vo,h,by go_num,rfl,HK.out,HR2.out.2⟩
    case measure=>obtain⟨⟨h,_⟩,_⟩:=HX.out;simp[RowKit.intOf];omega
   | true=>
    have HT2:Hid (kall f O (l.take (i+1))=kall f O (l.take i)++kes x.c (f x)):=by
     show _=_;rw[HT.out,if_pos (of_decide_eq_true HHB.out)]
    clear HT HHB;go_wp2_with fail;go_loopw [5,8] (fun xo xk wr=>∃(k:Nat) (vo:Value),k≤um∧xk=.int .i64 k∧vo=xo∧Hid (RowK w.heap.size vo (kall f O (l.take i)++(kes x.c (f x)).take k) wr∧Below w.heap.size w wr)) (fun _ xk _=>um - (RowKit.intOf xk).toNat)
    case atStart=>exact⟨0,_,Nat.zero_le _,rfl,rfl,by rw[List.take_zero,List.append_nil];exact HR2.out⟩
    case round=>
     clear HR2;obtain⟨k,vo,hk,rfl,rfl,hR⟩:=hrel;have HRB:Hid (Below w.heap.size w wr):=hR.out.2;obtain⟨x0,_,x2,_,x4⟩:=HCC.out wr hR.out.2;by_cases hlt:k<um
     ·obtain⟨hxl,hum,hac,_,hst,huo⟩:x∈l∧um=(f x).length∧x.c.actor=ca∧True∧x.c.start=ct∧x.uo=.slice uo um ue:=⟨HX.out.2.1,HX.out.2.2.1,HX.out.2.2.2.1,trivial,HX.out.2.2.2.2.2.1,HX.out.2.2.2.2.2.2⟩
      obtain⟨a8,c8,e8,_,_,h8,h9⟩:=(HV.out.2.1 x hxl).1;have hkf:k<(f x).length:=by omega
      obtain⟨ob,oo,ha8,hob,hcell⟩:=h9 (fun e=>by rw[e] at hkf;simp at hkf);have hua:uo=some ⟨ob,oo,none⟩:=by rw[huo] at e8;exact(Value.slice.inj e8).1.trans ha8
      obtain⟨⟨o,pv⟩,hq⟩:∃z:OV,(f x)[k]=z:=⟨_,rfl⟩
      obtain⟨pa,pn,pc,rfl⟩:∃a n c,pv=.slice a n c:=by
       obtain⟨a7,c7,e7,_⟩:=(h8 (f x)[k] (List.getElem_mem hkf)).1;rw[hq] at e7;exact⟨_,_,_,e7⟩
      have HCL:Hid (∀W,Below w.heap.size w W→W.cell? ⟨ob,oo+k*13,none⟩=some (.int .i64 o.kind)∧W.cell? ⟨ob,oo+k*13+1,none⟩=some (.int .i64 o.obj.1)∧W.cell? ⟨ob,oo+k*13+2,none⟩=some (.int .i64 o.obj.2)∧W.cell? ⟨ob,oo+k*13+3,none⟩=some (.string o.key)∧W.cell? ⟨ob,oo+k*13+4,none⟩=some (.int .i64 o.elem.1)∧W.cell? ⟨ob,oo+k*13+5,none⟩=some (.int .i64 o.elem.2)∧W.cell? ⟨ob,oo+k*13+6,none⟩=some (.bool o.ins)∧W.cell? ⟨ob,oo+k*13+7,none⟩=some (.int .i64 o.val.k)∧W.cell? ⟨ob,oo+k*13+8,none⟩=some (.int .i64 o.val.n)∧W.cell? ⟨ob,oo+k*13+9,none⟩=some (.string o.val.t)∧W.cell? ⟨ob,oo+k*13+10,none⟩=some (.int .i64 o.val.o)∧W.cell? ⟨ob,oo+k*13+11,none⟩=some (.int .i64 o.val.a)∧W.cell? ⟨ob,oo+k*13+12,none⟩=some (.slice pa pn pc)∧W.cell? ⟨cb,co+i*5,none⟩=some (.int .i64 ca)∧W.cell? ⟨cb,co+i*5+2,none⟩=some (.int .i64 ct)∧W.cell? ⟨cb,co+i*5+4,none⟩=some (.slice (some ⟨ob,oo,none⟩) um ue)):=fun W hW=>by
       have hc:∀j,j<13→W.cell? ⟨ob,oo+k*13+j,none⟩=(opCells o (.slice pa pn pc))[j]?:=fun j hj=>by rw[hW.cell (p:=⟨ob,oo+k*13+j,none⟩) hob,hcell k hkf j hj,hq]
       obtain⟨r0,_,r2,_,r4⟩:=HCC.out W hW;rw[hua] at r4;exact⟨hc 0 (by omega),hc 1 (by omega),hc 2 (by omega),hc 3 (by omega),hc 4 (by omega),hc 5 (by omega),hc 6 (by omega),hc 7 (by omega),hc 8 (by omega),hc 9 (by omega),hc 10 (by omega),hc 11 (by omega),hc 12 (by omega),r0,r2,r4⟩
      obtain⟨ctk,hctk⟩:=gNz (ct+(k:Int):Int);have hw:IntKind.i64.wrap (ct+(k:Int))=ctk:=by
       rw[←hctk];have h1:=HV.out.2.2.1 x hxl;rw[←hst];exact IntWalk.i64_in _ (by have h2:=h1.1;have h3:=h1.2.1;have h4:=H40.out x hxl;omega)
      have b9:Below wr.heap.size wr (wr.drew.alloc (.cells (opB o o.ins (.slice pa pn pc) ctk ca) 131)):=((Below.refl wr.heap.size wr).drew).alloc lRf _;have hlen:(kall f O (l.take i)++(kes x.c (f x)).take k).length≤1000000:=by
       have h1:=kall_len f O (l.take i) (fun y hy=>H40.out y (List.mem_of_mem_take hy));have h2:=HV.out.2.2.2.2;have h3:=H40.out x hxl;rw[List.length_append,List.length_take,kes_len];rw[List.length_take] at h1;omega
      obtain⟨v9,U9,happ,row9,gr9⟩:=run_appK 100 (wr.drew.alloc (.cells (opB o o.ins (.slice pa pn pc) ctk ca) 131)) w.heap.size (Nat.le_trans HRB.out.size b9.size) vo (kall f O (l.take i)++(kes x.c (f x)).take k) o pa pn pc (ctk,ca) (own_below hR.out.1 b9 lRf) hlen wr.heap.size (heap_alloc_new wr.drew _);have HRB2:Hid (Below w.heap.size w (wr.drew.alloc (.cells (opB o o.ins (.slice pa pn pc) ctk ca) 131))):=HRB.out.trans (b9.mono HRB.out.size);have HRB3:Hid (Below w.heap.size w U9):=HRB2.out.grown gr9 HRB2.out.size (fun j e=>(hR.out.1.lt j e).1);have HNX:Hid (RowK w.heap.size v9 (kall f O (l.take i)++(kes x.c (f x)).take (k+1)) U9):=by
       show RowK _ _ _ _;have hk9:k<(kes x.c (f x)).length:=by rw[kes_len];exact hkf
       rw[take_snocE _ k hk9,←List.append_assoc,kes_at,hst,hac,hctk,hq];exact row9
      have HKU:Hid (k<um):=hlt;have g5:(k:Int)<um:=by omega
      have g6:(0:Int)≤k:=by omega
      have g7:(i:Int)<ln:=by obtain⟨⟨h,_⟩,_⟩:=HX.out;have:=HLN.out;omega
      rw[hua] at x4;clear hua hxl hum hac hst huo e8 h8 h9 ha8 hob hcell hq hkf hctk b9 hlen row9 gr9 hlt hk hR;go_upto_region 10 with fail
      clear x0 x2 x4;refine rNh (fun W=>Below w.heap.size w W) (drew_of HRB.out) (fun hHeld=>?_);refine tkC 0 HCL rfl ?_;refine tkC 1 HCL rfl ?_;refine tkC 2 HCL rfl ?_;refine tkC 3 HCL rfl ?_;refine tkC 4 HCL rfl ?_;refine tkC 5 HCL rfl ?_;refine tkC 6 HCL rfl ?_;refine tkC 7 HCL rfl ?_;refine tkC 8 HCL rfl ?_;refine tkC 9 HCL rfl ?_;refine tkC 10 HCL rfl ?_;refine tkC 11 HCL rfl ?_;refine tkC 12 HCL rfl ?_;refine tkC 13 HCL rfl ?_;refine tkC 14 HCL rfl ?_;refine tkC 15 HCL rfl ?_;refine tkC 16 HCL rfl ?_;refine tkC 17 HCL rfl ?_;refine tkC 18 HCL rfl ?_;refine tkC 19 HCL rfl ?_;refine tkC 20 HCL rfl ?_;refine tkC 21 HCL rfl ?_;refine tkC 22 HCL rfl ?_;refine wpAnyH_ready (rs:=[23]) (by kernel_rfl) (by simp) (AllReadyH.cons (o:={dst:=some 57,op:=Op.buildSlice 100 1 #[(0,Operand.tmp 56)],type:=100,pos := "book.go:92",after:=#[aD 22],guard:=none}) rfl (fun K hK=>?_) AllReadyH.nil);go_simp;refine hK.out _ _ (HRB2.out) (fun hHeld23=>?_);clear hK K;try simp only[Act.put,nm]
      refine wpAnyH_ready (rs:=[24]) (by kernel_rfl) (by simp) (AllReadyH.cons (o:={dst:=some 58,op:=Op.call {callee:=Callee.builtin Builtin.append,args:=#[Operand.tmp 34,Operand.tmp 57],argTypes:=#[100,100]},type:=100,pos := "book.go:92",after:=#[aD 0,aD 23],guard:=none}) rfl (fun K hK=>?_) AllReadyH.nil);refine step_append_known rfl (.tmp 34) (.tmp 57) 100 rfl vo (.slice (some ⟨wr.drew.heap.size,0,none⟩) 1 1) v9 U9 (by simp[Act.eval]) (by simp[Act.eval]) happ ?_;refine hK.out _ _ (HRB3.out) (fun hHeld24=>?_);clear hK K;try simp only[Act.put,nm]
      refine tk 25 rfl ?_;refine wDn ?_;clear hHeld hHeld23 hHeld24 happ hw g7;go_upto_region 9 with fail
      have g8:(k:Int)<1000000:=by have:=HX.out.2.2.1;have:=H40.out x HX.out.2.1;have:=HKU.out;omega
      go_wp2;go_roundw
      case rel=>exact⟨k+1,v9,HKU.out,by go_num,rfl,HNX.out,HRB3.out⟩
      case measure=>have:=HKU.out;simp[RowKit.intOf];omega
     ·have hme:¬(k:Int)<um:=by omega
      have HK:Hid (RowK w.heap.size vo (kall f O (l.take (i+1))) wr∧Below w.heap.size w wr):=by
       have h1:=hR.out;have h2:=HX.out.2.2.1;rw[List.take_of_length_le (l:=kes x.c (f x)) (by rw[kes_len];omega),←HT2.out] at h1;exact h1
      clear hlt hk hR;go_upto_region 4 with fail
      clear x0 x2 x4;have g2:(i:Int)<1000:=by obtain⟨⟨h,_⟩,_⟩:=HX.out;have:=HV.out.2.2.2.2;omega
      go_wp2;go_roundw
      case rel=>obtain⟨⟨h,_⟩,_⟩:=HX.out;exact⟨i+1,vo,h,by go_num,rfl,HK.out⟩
      case measure=>obtain⟨⟨h,_⟩,_⟩:=HX.out;simp[RowKit.intOf];omega
  ·have hme:¬(i:Int)<ln:=by have:=HLN.out;omega
   have HE:Hid (RowK w.heap.size vo (kall f O l) wr∧Below w.heap.size w wr):=by
    have:=hR.out;rw[List.take_of_length_le (by omega)] at this;exact this
   clear hlt hi hR;go_wp2;go_ret;exact⟨⟨_,rfl,HE.out.1⟩,HE.out.2⟩
theorem keep4 {W W':World} {a b c d:Addr} {u0 u1 u2 u3:Value} (h:W.cell? a=some u0∧W.cell? b=some u1∧W.cell? c=some u2∧W.cell? d=some u3) (hb:Below W.heap.size W W'):W'.cell? a=some u0∧W'.cell? b=some u1∧W'.cell? c=some u2∧W'.cell? d=some u3:=
 ⟨(hb.cell (cell_in h.1)).trans h.1,(hb.cell (cell_in h.2.1)).trans h.2.1,(hb.cell (cell_in h.2.2.1)).trans h.2.2.1,(hb.cell (cell_in h.2.2.2)).trans h.2.2.2⟩
theorem rReady_any (g:Nat) (la:Option Addr) (ln lc:Nat) (vw:Value) (l:List CX) (v:Value) (c:Chg) (w:World) (hg:w.heap[g]?=some (.cells #[.slice la ln lc,vw] 73)) (hl:IsChgs w (.slice la ln lc) l) (hv:IsChg w v c):
 Calls Tryz.prog 66 #[.pointer (some ⟨g,0,none⟩),v] w fun e w'=>(∃b:Bool,e=.returned (.bool b)∧(b=true↔Ready (l.map (·.c)) c))∧Below w.heap.size w w':=by
 obtain⟨ud,uo,lo,rfl,_,_,_,hdp,hop,_⟩:=hv;obtain⟨da,dn,dc,rfl⟩:∃a n c,ud=.slice a n c:=by obtain⟨a,c,e,_⟩:=hdp;exact⟨_,_,_,e⟩
 obtain⟨oa,on,oc,rfl⟩:∃a n c,uo=.slice a n c:=by obtain⟨a,c,e,_⟩:=hop;exact⟨_,_,_,e⟩
 obtain⟨HDN⟩:Nonempty (Hid (dn=c.deps.length∧c.deps.length≤8796093022208)):=⟨by obtain⟨a,c9,e,_,h2,_⟩:=hdp;exact⟨(Value.slice.inj e).2.1,h2⟩⟩
 obtain⟨ca,hca⟩:=gNz (c.actor:Int);obtain⟨cs,hcs⟩:=gNz (c.seq:Int);obtain⟨ct,hct⟩:=gNz (c.start:Int);rw[hca,hcs,hct];have HV:=hY3 hg hl hdp;have HN0:=hY2 (heap_alloc_new w _:(w.alloc (.cells #[.int .i64 ca,.int .i64 cs,.int .i64 ct,.slice da dn dc,.slice oa on oc] 33)).heap[w.heap.size]?=some (.cells #[.int .i64 ca,.int .i64 cs,.int .i64 ct,.slice da dn dc,.slice oa on oc] 33)) (bAl _ _:Below w.heap.size w (w.alloc (.cells #[.int .i64 ca,.int .i64 cs,.int .i64 ct,.slice da dn dc,.slice oa on oc] 33)));clear hg hl hdp hop hca hcs hct;go_enter Tryz.func66,Tryz.ntmps66
 go_wp2_with fail;go_loopw [5] (fun i wr=>∃m:Nat,m≤c.deps.length∧i=.int .i64 m∧Hid ((∀j (hj:j<c.deps.length),j<m→c.deps[j]∈refsOf (l.map (·.c)))∧wr.heap[w.heap.size]?=some (.cells #[.int .i64 ca,.int .i64 cs,.int .i64 ct,.slice da dn dc,.slice oa on oc] 33)∧Below w.heap.size w wr)) (fun i _=>c.deps.length - (RowKit.intOf i).toNat)
 case atStart=>exact⟨0,Nat.zero_le _,rfl,fun j _ hj=>absurd hj (Nat.not_lt_zero _),HN0.out⟩
 case round=>
  obtain⟨m,hm,rfl,hR⟩:=hrel;clear HN0;obtain⟨-,-,-,c3,-⟩:=cLs hR.out.2.1;by_cases hlt:m<c.deps.length
  ·obtain⟨a',c',e9,_,_,_,h4⟩:=id HV.out.2.2;obtain⟨pb,po,ha',h5,h6⟩:=h4 (fun e=>by rw[e] at hlt;simp at hlt);have hda:da=some ⟨pb,po,none⟩:=(Value.slice.inj e9).1.trans ha';have d3:wr.cell? ⟨w.heap.size,3,none⟩=some (.slice (some ⟨pb,po,none⟩) dn dc):=by rw[←hda];exact c3
   obtain⟨a,ha⟩:=gNz (c.deps[m]:Pr);have y0:wr.cell? ⟨pb,po+m*2,none⟩=some (.int .i64 a.1):=by rw[hR.out.2.2.cell (p:=⟨pb,po+m*2,none⟩) h5,←ha];exact(h6 m hlt).1
   have y1:wr.cell? ⟨pb,po+m*2+1,none⟩=some (.int .i64 a.2):=by rw[hR.out.2.2.cell (p:=⟨pb,po+m*2+1,none⟩) h5,←ha];exact(h6 m hlt).2
   have k0:wr.cell? ⟨g,0,none⟩=some (.slice la ln lc):=cLo ((hR.out.2.2.block g (lt_of_heap HV.out.1)).trans HV.out.1) 0;have zg:g<wr.heap.size:=Nat.lt_of_lt_of_le (lt_of_heap HV.out.1) hR.out.2.2.size;have HM:Hid (∃h:m<c.deps.length,c.deps[m]=a):=⟨hlt,ha⟩
   have g1:(m:Int)<dn:=by have:=HDN.out.1;omega
   have g3:(0:Int)≤m:=by omega
   have HR:Hid ((∀j (hj:j<c.deps.length),j<m→c.deps[j]∈refsOf (l.map (·.c)))∧wr.drew.heap[w.heap.size]?=some (.cells #[.int .i64 ca,.int .i64 cs,.int .i64 ct,.slice da dn dc,.slice oa on oc] 33)∧Below w.heap.size w wr.drew):=⟨hR.out.1,hR.out.2.1,drew_of hR.out.2.2⟩
   have EF:=rFind_any (.slice la ln lc) l a wr.drew (HV.out.2.1.below HR.out.2.2);clear e9 h4 ha' h5 h6 hda ha hlt hm hR c3;go_upto_region 4 with fail
   refine rNh (fun W=>W.cell? ⟨g,0,none⟩=some (.slice la ln lc)∧W.cell? ⟨w.heap.size,3,none⟩=some (.slice (some ⟨pb,po,none⟩) dn dc)∧W.cell? ⟨pb,po+m*2,none⟩=some (.int .i64 a.1)∧W.cell? ⟨pb,po+m*2+1,none⟩=some (.int .i64 a.2)) (⟨k0,d3,y0,y1⟩) (fun hHeld=>?_);refine tk 0 rfl ?_;refine tk 1 rfl ?_;refine tk 2 rfl ?_;refine tk 3 rfl ?_;refine tk 4 rfl ?_;refine tk 5 rfl ?_;refine tk 6 rfl ?_;refine tk 7 rfl ?_;refine tk 8 rfl ?_;refine wpAnyH_ready (rs:=[9]) (by kernel_rfl) (by simp) (AllReadyH.cons (o:={dst:=some 23,op:=Op.call {callee:=Callee.value (Operand.func 62),args:=#[Operand.tmp 17,Operand.tmp 22],argTypes:=#[23,45]},type:=3,pos := "book.go:193",after:=#[aD 3,aD 8],guard:=none}) rfl (fun K hK=>?_) AllReadyH.nil);go_simp;go_at_call 62;refine Calls.mono EF ?_;rintro e w9 ⟨⟨x,rfl,hx⟩,b9⟩;go_wp2_with fail;refine hK.out _ _ (keep4 (by assumption) b9) (fun hHeld9=>?_);clear hK K;try simp only[Act.put,nm]
   refine tk 10 rfl ?_;refine wDn ?_;have HX:Hid (FindP (l.map (·.c)) a x):=hx;have HN1:=hY2 (heap_below HR.out.2.1 b9 lRf) (HR.out.2.2.trans (b9.mono HR.out.2.2.size));clear hHeld hHeld9 k0 d3 y0 y1 EF b9 hx g1 g3 zg;by_cases hneg:x<0
   ·have HF:Hid (¬Ready (l.map (·.c)) c):=fun hr=>by
     obtain⟨h,e⟩:=HM.out;exact HX.out.neg.1 hneg (by rw[←e];exact hr _ (List.getElem_mem h))
    go_wp2;go_ret;first | exact⟨⟨_,rfl,(fun h=>by cases h),fun h=>absurd h HF.out⟩,HN1.out.2⟩ | exact⟨Or.inl ⟨rfl,HF.out⟩,HN1.out.2⟩
   ·have HP:Hid (a∈refsOf (l.map (·.c))):=Classical.byContradiction fun h=>hneg (HX.out.neg.2 h);go_upto_region 3 with fail
    have gm:(m:Int)<8796093022208:=by obtain⟨h,_⟩:=HM.out;have:=HDN.out.2;omega
    go_wp2;go_roundw
    case rel=>
     obtain⟨h,e⟩:=HM.out;refine⟨m+1,h,by go_num,fun j hj hjm=>?_,HN1.out⟩;rcases Nat.lt_or_ge j m with h1 | h1
     ·exact HR.out.1 j hj h1
     ·obtain rfl:j=m:=by omega
      rw[e];exact HP.out
    case measure=>obtain⟨h,_⟩:=HM.out;simp[RowKit.intOf];omega
  ·have hme:¬(m:Int)<dn:=by have:=HDN.out.1;omega
   have HF:Hid (Ready (l.map (·.c)) c∧Below w.heap.size w wr):=⟨fun d hd=>by
    obtain⟨j,hj,rfl⟩:=List.getElem_of_mem hd;exact hR.out.1 j hj (by omega),hR.out.2.2⟩
   clear hlt hm hR;go_wp2;go_ret;exact⟨Or.inr ⟨rfl,HF.out.1⟩,HF.out.2⟩
theorem mem_opsC {c:Chg} {q:OpM×Pr}:q∈opsC c↔∃k,∃h:k<c.ops.length,q=(c.ops[k],(c.start+(k:Int),c.actor)):=by
 unfold opsC;constructor
 ·intro h;obtain⟨p,hp,rfl⟩:=List.mem_map.1 h;obtain⟨h1,h2⟩:=List.mem_zipIdx' hp;exact⟨p.2,h1,by rw[h2]⟩
 ·rintro⟨k,hk,rfl⟩;refine List.mem_map.2 ⟨(c.ops[k],k),?_,rfl⟩;rw[List.mem_iff_getElem?];exact⟨k,by rw[List.getElem?_zipIdx,List.getElem?_eq_getElem hk];simp⟩
theorem mem_opsK {S:List Chg} {q:OpM×Pr}:q∈opsK S↔∃x∈S,q∈opsC x:=by unfold opsK;exact List.mem_flatMap
theorem num_ops {L:List Chg} {D:List Pr} {c:Chg}:(∀q∈opsK (subL L D),q.2.1<c.start)↔NumOk L D c:=by
 constructor
 ·intro h x hx hr ho;have hp:0<x.ops.length:=List.length_pos_iff.2 ho;have:=h (x.ops[x.ops.length - 1]'(by omega),(x.start+((x.ops.length - 1:Nat):Int),x.actor)) (mem_opsK.2 ⟨x,mem_subL.2 ⟨hx,hr⟩,mem_opsC.2 ⟨x.ops.length - 1,by omega,rfl⟩⟩);simp only at this;omega
 ·intro h q hq;obtain⟨x,hx,hq⟩:=mem_opsK.1 hq;obtain⟨k,hk,rfl⟩:=mem_opsC.1 hq;obtain⟨h1,h2⟩:=mem_subL.1 hx;have:=h x h1 h2 (fun e=>by rw[e] at hk;simp at hk);simp only;omega
theorem known_own {L:List Chg} {D:List Pr} {c:Chg} {i:Nat} {f:CX→List OV} {l:List CX} {lo:List OV} (hL:l.map (·.c)=L) (hf:∀x∈l,(f x).map (·.1)=x.c.ops) (ho:lo.map (·.1)=c.ops):lkK (keM (kall f D l++kes c (lo.take i)))=lkc (subL L D++[cutC c i]):=by
 funext a;have e1:keM (kes c (lo.take i))=opsC (cutC c i):=keM_kes (cutC c i) (lo.take i) (by rw[List.map_take,ho];rfl);rw[keM_append,keM_kall f D l hf,e1,hL,←lkK_opsK];unfold opsK;rw[List.flatMap_append];simp
theorem kes_snoc (c:Chg) (lo:List OV) (i:Nat) (h:i<lo.length):kes c (lo.take (i+1))=kes c (lo.take i)++[(lo[i],(c.start+(i:Int),c.actor))]:=by
 unfold kes;rw[take_snocE lo i h,List.zipIdx_append,List.map_append];simp[List.length_take,Nat.min_eq_left (Nat.le_of_lt h)]
def SeqTo (O:List Pr) (c:Chg) (i:Nat) (b:Bool):Prop:=(∀j (h:j<O.length),j<i→O[j].1=c.actor→O[j].2<c.seq)∧(b=true↔∃j,∃h:j<O.length,j<i∧O[j]=(c.actor,c.seq - 1))
theorem SeqTo.start (O:List Pr) (c:Chg):SeqTo O c 0 false:=⟨fun _ _ h=>absurd h (Nat.not_lt_zero _),⟨(fun h=>by cases h),fun⟨_,_,h,_⟩=>absurd h (Nat.not_lt_zero _)⟩⟩
theorem SeqTo.other {O:List Pr} {c:Chg} {i:Nat} {b:Bool} (h:SeqTo O c i b) (hi:i<O.length) (hn:O[i].1≠c.actor):SeqTo O c (i+1) b:=by
 refine⟨fun j hj hji ha=>?_,h.2.trans ⟨fun⟨j,hj,hji,e⟩=>⟨j,hj,by omega,e⟩,fun⟨j,hj,hji,e⟩=>?_⟩⟩
 ·rcases Nat.lt_or_ge j i with h1 | h1
  ·exact h.1 j hj h1 ha
  ·obtain rfl:j=i:=by omega
   exact absurd ha hn
 ·rcases Nat.lt_or_ge j i with h1 | h1
  ·exact⟨j,hj,h1,e⟩
  ·obtain rfl:j=i:=by omega
   exact absurd (congrArg Prod.fst e) hn
theorem SeqTo.below {O:List Pr} {c:Chg} {i:Nat} {b:Bool} (h:SeqTo O c i b) (hi:i<O.length) (hl:O[i].2<c.seq) (hn:O[i].2≠c.seq - 1):SeqTo O c (i+1) b:=by
 refine⟨fun j hj hji ha=>?_,h.2.trans ⟨fun⟨j,hj,hji,e⟩=>⟨j,hj,by omega,e⟩,fun⟨j,hj,hji,e⟩=>?_⟩⟩
 ·rcases Nat.lt_or_ge j i with h1 | h1
  ·exact h.1 j hj h1 ha
  ·obtain rfl:j=i:=by omega
   exact hl
 ·rcases Nat.lt_or_ge j i with h1 | h1
  ·exact⟨j,hj,h1,e⟩
  ·obtain rfl:j=i:=by omega
   exact absurd (congrArg Prod.snd e) hn
theorem SeqTo.just {O:List Pr} {c:Chg} {i:Nat} {b:Bool} (h:SeqTo O c i b) (hi:i<O.length) (ha:O[i].1=c.actor) (he:O[i].2=c.seq - 1):SeqTo O c (i+1) true:=by
 refine⟨fun j hj hji hb=>?_,⟨fun _=>⟨i,hi,by omega,Prod.ext ha he⟩,fun _=>rfl⟩⟩;rcases Nat.lt_or_ge j i with h1 | h1
 ·exact h.1 j hj h1 hb
 ·obtain rfl:j=i:=by omega
  omega
theorem SeqTo.done {O:List Pr} {c:Chg} {i:Nat} {b:Bool} (h:SeqTo O c i b) (hi:O.length≤i):(1<c.seq→b=true)↔SeqOk O c:=by
 constructor
 ·intro hb;refine⟨fun s hs=>?_,fun h1=>?_⟩
  ·obtain⟨j,hj,e⟩:=List.getElem_of_mem hs;have:=h.1 j hj (by omega) (by rw[e]);rw[e] at this;exact this
  ·obtain⟨j,hj,_,e⟩:=h.2.1 (hb h1);rw[←e];exact List.getElem_mem hj
 ·intro hs h1;obtain⟨j,hj,e⟩:=List.getElem_of_mem (hs.2 h1);exact h.2.2 ⟨j,hj,by omega,e⟩
theorem seq_bad {O:List Pr} {c:Chg} {i:Nat} (hi:i<O.length) (ha:O[i].1=c.actor) (hs:c.seq≤O[i].2):¬SeqOk O c:=fun h=>by
 have:=h.1 O[i].2 (by rw[←ha];exact List.getElem_mem hi);omega
open Classical in
theorem ops_choice {w:World} {v:Value} {l:List CX} (h:IsChgs w v l):∃f:CX→List OV,∀x∈l,IsOps w x.uo (f x)∧(f x).map (·.1)=x.c.ops:=by
 obtain⟨a,cap,rfl,h1,h2,hr,h3⟩:=h;have key:∀x:CX,∃lo:List OV,x∈l→IsOps w x.uo lo∧lo.map (·.1)=x.c.ops:=fun x=>by
  by_cases hx:x∈l
  ·obtain⟨ud,uo,lo,e,_,_,_,_,ho,hm⟩:=hr x hx;have e2:x.uo=uo:=by simp at e;exact e.2
   exact⟨lo,fun _=>by rw[e2];exact⟨ho,hm⟩⟩
  ·exact⟨[],fun h=>absurd h hx⟩
 exact⟨fun x=>Classical.choose (key x),fun x hx=>Classical.choose_spec (key x) hx⟩
end Go.Proofs.YtamhlgflbacjgaaGreat
