/-
  What is proved: as each theorem says.
  Conditions: as each theorem says.
-/
import Derived.Test.YtamhlgflbacjgaaGreatF00
import Derived.Test.YtamhlgflbacjgaaGreatF31
import Derived.Test.YtamhlgflbacjgaaGreatF27
import Derived.Test.YtamhlgflbacjgaaGreatF32
import Derived.Test.YtamhlgflbacjgaaGreatF25
set_option maxRecDepth 100000
set_option maxHeartbeats 16000000
namespace Go.Proofs.YtamhlgflbacjgaaGreat
open Go.RowKit Go.Sort
def pendE (n act:Int) (P:List OV):List KE:=kes ⟨act,0,n,[],P.map (·.1)⟩ P
theorem pend_keM (n act:Int) (P:List OV):keM (pendE n act P)=pendK n act (P.map (·.1)):=keM_kes _ P rfl
theorem kst_keM (f:CX→List OV):∀(l:List CX),(∀x∈l,(f x).map (·.1)=x.c.ops)→keM (kst f l)=opsK (l.map (·.c))
 | [],_=>rfl
 | x::l,h=>by
  have ih:=kst_keM f l (fun y hy=>h y (List.mem_cons_of_mem _ hy));unfold kst opsK at ih ⊢;rw[List.flatMap_cons,keM_append,keM_kes x.c (f x) (h x (List.mem_cons_self ..)),ih,List.map_cons,List.flatMap_cons]
theorem kcells_one {l:List KE} (h:∀q∈l,∃a n c,q.1.2=.slice a n c):∀y∈kcells l,y.oneCell'=true:=by
 intro y hy;obtain⟨q,hq,hy⟩:=List.mem_flatMap.1 hy;obtain⟨a,n,c,e⟩:=h q hq;rw[e] at hy;exact kn_one _ _ _ _ _ y hy
theorem kes_mem {c:Chg} {lo:List OV} {q:KE} (h:q∈kes c lo):q.1∈lo:=by
 unfold kes at h;obtain⟨p,hp,rfl⟩:=List.mem_map.1 h;obtain⟨h1,h2⟩:=List.mem_zipIdx' hp;rw[h2];exact List.getElem_mem h1
def JP (w:World) (cx:List CX) (f:CX→List OV) (P:List OV) (K:List (OpM×Pr)) (e:Ending) (w':World):Prop:=∃u ll,e=.returned (.agg #[u])∧RowK w.heap.size u ll w'∧(∀q∈ll,(∃x∈cx,q.1∈f x)∨q.1∈P)∧keM ll=K∧ll.length≤1000000∧Below w.heap.size w w'
theorem rJ_any (h g:Nat) (act:Int) (l:List CX) (f:CX→List OV) (vl vw vp:Value) (P:List OV) (w:World) (hb:w.heap[h]?=some (.cells #[.int .i64 act,.pointer (some ⟨g,0,none⟩),vp] 68)) (bb:w.heap[g]?=some (.cells #[vl,vw] 73)) (hv:IsChgs w vl l) (hok:∀x∈l,chk x.c=0) (hf:∀x∈l,IsOps w x.uo (f x)∧(f x).map (·.1)=x.c.ops) (hl:l.length≤1000) (hp:IsOps w vp P) (hpl:P.length≤40):
 Calls Tryz.prog 54 #[.pointer (some ⟨h,0,none⟩)] w fun e w'=>JP w l f P (opsK (l.map (·.c))++pendK (startN (l.map (·.c))) act (P.map (·.1))) e w':=by
 obtain⟨pa0,pcap,rfl,hpc,hpl2,hpq,hpa⟩:=hp;obtain⟨pl,hpl1⟩:=gNz (P.length);rw[hpl1] at hb hpc;obtain⟨n,hn⟩:=gNz (startN (l.map (·.c)));have HNR:Hid (1≤n∧n≤1000040):=by
  rw[←hn];exact startN_range fun c hc=>by
   obtain⟨x,hx,rfl⟩:=List.mem_map.1 hc;exact small_of (hok x hx)
 have HPL:=hY2 hpl1 hpl;have HPQ:Hid (∀q∈P,IsPairs w q.2 q.1.preds):=fun q hq=>(hpq q hq).1;have HPA:Hid (P≠[]→∃b off,pa0=some ⟨b,off,none⟩∧b<w.heap.size∧∀i (h:i<P.length) j,j<13→w.cell? ⟨b,off+i*13+j,none⟩=(opCells P[i].1 P[i].2)[j]?):=hpa;have HBX:=hY2 hb bb;have HV:=hY4 hv hok hf hl;have HN:Hid (startN (l.map (·.c))=n):=hn;rw[hn];obtain⟨post,hpost⟩:∃post:Ending→World→Prop,post=fun e w'=>JP w l f P (opsK (l.map (·.c))++pendK n act (P.map (·.1))) e w':=⟨_,rfl⟩
 have HPO:Hid (post=fun e w'=>JP w l f P (opsK (l.map (·.c))++pendK n act (P.map (·.1))) e w'):=hpost;rw[←hpost];clear hb bb hv hok hf hl hpc hpl2 hpq hpa hpl1 hpl hn hpost;go_enter Tryz.func54,Tryz.ntmps54
 go_upto_region 1 with fail
 have HW0:=hY2 (heap_alloc_new w _:(w.alloc (.cells #[.slice none 0 0] 102)).heap[w.heap.size]?=some (.cells #[.slice none 0 0] 102)) (bAl _ _:Below w.heap.size w (w.alloc (.cells #[.slice none 0 0] 102)));generalize w.alloc (.cells #[.slice none 0 0] 102)=W0 at *;have E1:=rStart_any h g act l vl vw (.slice pa0 pl pcap) W0 (heap_below HBX.out.1 HW0.out.2 lRf) (heap_below HBX.out.2 HW0.out.2 lRf) (HV.out.1.below HW0.out.2) HV.out.2.1 HV.out.2.2.2;rw[HN.out] at E1;obtain⟨s9,hs9⟩:=gNz (startS act (l.map (·.c)));rw[hs9] at E1;clear hs9;go_wp2_with fail;go_fit E1;rintro e w1 ⟨rfl,b1⟩;have HW1:=hY2 (heap_below HW0.out.1 b1 lRf) (HW0.out.2.trans (b1.mono HW0.out.2.size));clear b1 HW0 E1;go_wp2_with fail;go_loopw [5,6] (fun mo i wr=>∃(k:Nat) (vo:Value),k≤pl∧i=.int .i64 (k:Int)∧vo=mo∧Hid (RowK w.heap.size vo ((pendE n act P).take k) wr∧Below w.heap.size w wr∧wr.heap[w.heap.size]?=some (.cells #[.slice none 0 0] 102))) (fun _ i _=>pl - (RowKit.intOf i).toNat)
 case atStart=>exact⟨0,_,Nat.zero_le _,rfl,rfl,World.ownsRow_nil _ _ _ _,HW1.out.2,HW1.out.1⟩
 case round=>
  obtain⟨k,vo,hk,rfl,rfl,HR⟩:=hrel;have hbw:=heap_below HBX.out.1 HR.out.2.1 lRf;obtain⟨-,-,d2,-⟩:=cLs hbw;clear hbw;by_cases hlt:k<pl
  ·have hkf:k<P.length:=by have:=HPL.out.1;omega
   obtain⟨ob,oo,rfl,hob,hcell⟩:=HPA.out (fun e=>by rw[e] at hkf;simp at hkf);obtain⟨⟨o,pv⟩,hq⟩:∃z:OV,P[k]=z:=⟨_,rfl⟩
   obtain⟨pa,pn,pc,rfl⟩:∃a n c,pv=.slice a n c:=by
    obtain⟨a7,c7,e7,_⟩:=HPQ.out P[k] (List.getElem_mem hkf);rw[hq] at e7;exact⟨_,_,_,e7⟩
   have HCL:Hid (∀W,Below w.heap.size w W→W.cell? ⟨ob,oo+k*13,none⟩=some (.int .i64 o.kind)∧W.cell? ⟨ob,oo+k*13+1,none⟩=some (.int .i64 o.obj.1)∧W.cell? ⟨ob,oo+k*13+2,none⟩=some (.int .i64 o.obj.2)∧W.cell? ⟨ob,oo+k*13+3,none⟩=some (.string o.key)∧W.cell? ⟨ob,oo+k*13+4,none⟩=some (.int .i64 o.elem.1)∧W.cell? ⟨ob,oo+k*13+5,none⟩=some (.int .i64 o.elem.2)∧W.cell? ⟨ob,oo+k*13+6,none⟩=some (.bool o.ins)∧W.cell? ⟨ob,oo+k*13+7,none⟩=some (.int .i64 o.val.k)∧W.cell? ⟨ob,oo+k*13+8,none⟩=some (.int .i64 o.val.n)∧W.cell? ⟨ob,oo+k*13+9,none⟩=some (.string o.val.t)∧W.cell? ⟨ob,oo+k*13+10,none⟩=some (.int .i64 o.val.o)∧W.cell? ⟨ob,oo+k*13+11,none⟩=some (.int .i64 o.val.a)∧W.cell? ⟨ob,oo+k*13+12,none⟩=some (.slice pa pn pc)∧W.cell? ⟨h,0,none⟩=some (.int .i64 act)∧W.cell? ⟨h,2,none⟩=some (.slice (some ⟨ob,oo,none⟩) pl pcap)):=fun W hW=>by
    have hc:∀j,j<13→W.cell? ⟨ob,oo+k*13+j,none⟩=(opCells o (.slice pa pn pc))[j]?:=fun j hj=>by rw[hW.cell (p:=⟨ob,oo+k*13+j,none⟩) hob,hcell k hkf j hj,hq]
    have hbw:=heap_below HBX.out.1 hW lRf;exact⟨hc 0 (by omega),hc 1 (by omega),hc 2 (by omega),hc 3 (by omega),hc 4 (by omega),hc 5 (by omega),hc 6 (by omega),hc 7 (by omega),hc 8 (by omega),hc 9 (by omega),hc 10 (by omega),hc 11 (by omega),hc 12 (by omega),cLo hbw 0,cLo hbw 2⟩
   obtain⟨nk,hnk⟩:=gNz (n+(k:Int):Int);have hw:IntKind.i64.wrap (n+(k:Int))=nk:=by
    rw[←hnk];exact IntWalk.i64_in _ (by have:=HNR.out;have:=HPL.out;omega)
   have b9:Below wr.heap.size wr (wr.drew.alloc (.cells (opB o o.ins (.slice pa pn pc) nk act) 131)):=((Below.refl wr.heap.size wr).drew).alloc lRf _;have hlen:((pendE n act P).take k).length≤1000000:=by
    rw[List.length_take];have:=HPL.out;omega
   obtain⟨v9,U9,happ,row9,gr9⟩:=run_appK 100 (wr.drew.alloc (.cells (opB o o.ins (.slice pa pn pc) nk act) 131)) w.heap.size (Nat.le_trans HR.out.2.1.size b9.size) vo ((pendE n act P).take k) o pa pn pc (nk,act) (own_below HR.out.1 b9 lRf) hlen wr.heap.size (heap_alloc_new wr.drew _);have HB2:Hid (Below w.heap.size w (wr.drew.alloc (.cells (opB o o.ins (.slice pa pn pc) nk act) 131))):=HR.out.2.1.trans (b9.mono HR.out.2.1.size);have HB3:Hid (Below w.heap.size w U9):=HB2.out.grown gr9 HB2.out.size (fun j e=>(HR.out.1.lt j e).1);have HJ9:Hid (U9.heap[w.heap.size]?=some (.cells #[.slice none 0 0] 102)):=box_grown0 (own_below HR.out.1 b9 lRf) (heap_below HR.out.2.2 b9 lRf) (by decide) gr9;have HNX:Hid (RowK w.heap.size v9 ((pendE n act P).take (k+1)) U9):=by
    show RowK _ _ _ _;have hk9:k<(pendE n act P).length:=by unfold pendE;rw[kes_len];exact hkf
    have e9:(pendE n act P)[k]=((o,.slice pa pn pc),(nk,act)):=(kes_at ⟨act,0,n,[],P.map (·.1)⟩ P k hk9).trans (by rw[hq];show(_,(n+(k:Int),act))=_;rw[hnk]);rw[take_snocE _ k hk9,e9];exact row9
   have HKU:Hid (k<pl):=hlt;have g5:(k:Int)<pl:=by omega
   have g6:(0:Int)≤k:=by omega
   have HRB:Hid (Below w.heap.size w wr):=HR.out.2.1;clear hob hcell hq hkf hnk b9 hlen row9 gr9 hlt hk;go_upto_region 6 with fail
   clear d2;refine rNh (fun W=>Below w.heap.size w W) (drew_of HRB.out) (fun hHeld=>?_);refine tkC 0 HCL rfl ?_;refine tkC 1 HCL rfl ?_;refine tkC 2 HCL rfl ?_;refine tkC 3 HCL rfl ?_;refine tkC 4 HCL rfl ?_;refine tkC 5 HCL rfl ?_;refine tkC 6 HCL rfl ?_;refine tkC 7 HCL rfl ?_;refine tkC 8 HCL rfl ?_;refine tkC 9 HCL rfl ?_;refine tkC 10 HCL rfl ?_;refine tkC 11 HCL rfl ?_;refine tkC 12 HCL rfl ?_;refine tkC 13 HCL rfl ?_;refine tkC 14 HCL rfl ?_;refine tkC 15 HCL rfl ?_;refine tkC 16 HCL rfl ?_;refine ts 17 rfl (fun K hK=>?_);go_simp;refine hK.out _ _ HB2.out (fun hH1=>?_);clear hK K;try simp only[Act.put,nm]
   refine ts 18 rfl (fun K hK=>?_);refine step_app rfl (.tmp 21) (.tmp 38) 100 rfl _ _ _ U9 (by simp[Act.eval]) (by simp[Act.eval]) happ ?_;refine hK.out _ _ HB3.out (fun hH2=>?_);clear hK K;try simp only[Act.put,nm]
   refine tk 19 rfl ?_;refine wDn ?_;clear hHeld hH1 hH2 happ hw g5 g6;go_upto_region 5 with fail
   have g8:(k:Int)<1000000:=by have:=HPL.out;have:=HKU.out;omega
   go_wp2;go_roundw
   case rel=>exact⟨k+1,v9,HKU.out,by go_num,rfl,HNX.out,HB3.out,HJ9.out⟩
   case measure=>have:=HKU.out;simp[RowKit.intOf];omega
  ·have g1:¬(k:Int)<pl:=by omega
   have hall:(pendE n act P).take k=pendE n act P:=List.take_of_length_le (by unfold pendE;rw[kes_len];have:=HPL.out.1;omega);have HE:Hid (RowK w.heap.size vo (pendE n act P) wr):=by have:=HR.out.1;rw[hall] at this;exact this
   have hbw:=heap_below HBX.out.1 HR.out.2.1 lRf;have hgw:=heap_below HBX.out.2 HR.out.2.1 lRf;obtain⟨-,d1,-⟩:=cLs hbw;have e0:wr.cell? ⟨g,0,none⟩=some vl:=cLo hgw 0;have sl:∀x∈l,∀q∈f x,∃a n c,q.2=.slice a n c:=fun x hx q hq=>by
    obtain⟨_,_,_,_,_,h1,_⟩:=(HV.out.2.2.1 x hx).1;obtain⟨a,c,e,_⟩:=(h1 q hq).1;exact⟨_,_,_,e⟩
   have E2:=rState_any vl vo l f (pendE n act P) wr (HV.out.1.below HR.out.2.1) (fun x hx=>⟨(HV.out.2.2.1 x hx).1.below HR.out.2.1,(HV.out.2.2.1 x hx).2⟩) (fun x hx=>small_of (HV.out.2.1 x hx)) (own_at_u HE.out) (kcells_one fun q hq=>by
    obtain⟨a,c,e,_⟩:=HPQ.out _ (kes_mem hq);exact⟨_,_,_,e⟩) (fun x hx=>kcells_one fun q hq=>sl x hx _ (kes_mem hq)) HV.out.2.2.2 (by unfold pendE;rw[kes_len];have:=HPL.out.2;omega)
   clear hlt hk hall hbw hgw sl;go_wp2_with fail;go_fit E2;rintro e w2 ⟨u,rfl,hru,b2⟩;obtain⟨ua,uc,hu⟩:=own_form hru;obtain⟨un,hun⟩:=gNz ((kst f l++pendE n act P).length);rw[hun] at hu;subst hu;clear hun;have j0:=heap_below HR.out.2.2 b2 lRf;have k0:w2.cell? ⟨w.heap.size,0,none⟩=some (.slice none 0 0):=cLo j0 0;have kf:=fRz j0 0;have hlen:(kst f l++pendE n act P).length≤1000000:=by
    have h1:=kst_len f l (fun x hx=>by
     have h1:=congrArg List.length (HV.out.2.2.1 x hx).2;rw[List.length_map] at h1;have:=(small_of (HV.out.2.1 x hx)).2.2;omega)
    have h2:=HV.out.2.2.2;have h3:=HPL.out.2;rw[List.length_append];unfold pendE;rw[kes_len];omega
   have hbz:Below w.heap.size w (w2.setCell ⟨w.heap.size,0,none⟩ (.slice ua un uc)):=(HR.out.2.1.trans (b2.mono HR.out.2.1.size)).setCell lRf _;have hr5:RowK wr.heap.size (.slice ua un uc) (kst f l++pendE n act P) (w2.setCell ⟨w.heap.size,0,none⟩ (.slice ua un uc)):=own_set_other hru j0 (by decide);have k1:(w2.setCell ⟨w.heap.size,0,none⟩ (.slice ua un uc)).cell? ⟨w.heap.size,0,none⟩=some (.slice ua un uc):=World.cell?_setCell_same _ _ _ k0;have HEND:Hid (post (.returned (.agg #[.slice ua un uc])) (w2.setCell ⟨w.heap.size,0,none⟩ (.slice ua un uc))):=by
    show post _ _;rw[HPO.out];refine⟨_,_,rfl,own_mono hr5 HR.out.2.1.size,fun q hq=>?_,?_,hlen,hbz⟩
    ·rcases List.mem_append.1 hq with hq | hq
     ·unfold kst at hq;obtain⟨x,hx,hq⟩:=List.mem_flatMap.1 hq;exact Or.inl ⟨x,hx,kes_mem hq⟩
     ·exact Or.inr (kes_mem hq)
    rw[keM_append,kst_keM f l (fun x hx=>(HV.out.2.2.1 x hx).2),pend_keM]
   clear hru b2 j0 hlen hbz hr5 E2;go_wp2_with fail;generalize w2.setCell ⟨w.heap.size,0,none⟩ (.slice ua un uc)=w5 at *;exact bodyPost_ret (v:=.agg #[.slice ua un uc]) (by simp[results,Tryz.results54,go_sem,k1]) rfl HEND.out
structure HIn (h g:Nat) (act:Int) (cx:List CX) (f:CX→List OV) (vl vw vp:Value) (nw:Nat) (P:List OV) (w:World):Prop where
 hb:w.heap[h]?=some (.cells #[.int .i64 act,.pointer (some ⟨g,0,none⟩),vp] 68)
 bb:w.heap[g]?=some (.cells #[vl,vw] 73)
 hc:IsChgs w vl cx
 hok:∀x∈cx,chk x.c=0
 hcl:cx.length≤120
 hf:∀x∈cx,IsOps w x.uo (f x)∧(f x).map (·.1)=x.c.ops
 hw:∃a c,vw=.slice a nw c
 hnw:nw≤120
 hp:RowO 0 vp P w
 hpl:P.length≤40
 hpo:IsOps w vp P
 inv:Inv (cx.map (·.c))
 fin:FInv (cx.map (·.c))
 pok:PendOk (startN (cx.map (·.c))) (P.map (·.1))
 act:1≤act∧act≤99
theorem HIn.below {h g:Nat} {act:Int} {cx:List CX} {f:CX→List OV} {vl vw vp:Value} {nw:Nat} {P:List OV} {w w':World} (H:HIn h g act cx f vl vw vp nw P w) (b:Below w.heap.size w w'):HIn h g act cx f vl vw vp nw P w':=
 ⟨heap_below H.hb b lRf,heap_below H.bb b lRf,H.hc.below b,H.hok,H.hcl,fun x hx=>⟨(H.hf x hx).1.below b,(H.hf x hx).2⟩,H.hw,H.hnw,own_below H.hp b lRf,H.hpl,H.hpo.below b,H.inv,H.fin,H.pok,H.act⟩
def HKn (act:Int) (cx:List CX) (P:List OV):List (OpM×Pr):=opsK (cx.map (·.c))++pendK (startN (cx.map (·.c))) act (P.map (·.1))
theorem opsK_len:∀(L:List Chg),(∀c∈L,chk c=0)→(opsK L).length≤40*L.length
 | [],_=>by simp[opsK]
 | c::L,h=>by
  have ih:=opsK_len L (fun x hx=>h x (List.mem_cons_of_mem _ hx));have h1:=(chk_few (h c (List.mem_cons_self ..))).2.1;have e:opsK (c::L)=opsC c++opsK L:=rfl;have e2:(opsC c).length=c.ops.length:=by unfold opsC;simp
  rw[e,List.length_append,e2,List.length_cons];omega
section
variable {h g : Nat} {act : Int} {cx : List CX} {f : CX → List OV} {vl vw vp : Value} {nw : Nat} {P : List OV} {w : World}
theorem HIn.okc (H:HIn h g act cx f vl vw vp nw P w):∀c∈cx.map (·.c),chk c=0:=fun c hc=>by
 obtain⟨x,hx,rfl⟩:=List.mem_map.1 hc;exact H.hok x hx
theorem HIn.nums (H:HIn h g act cx f vl vw vp nw P w):1≤startN (cx.map (·.c))∧startN (cx.map (·.c))≤1000040:=startN_range fun c hc=>small_of (H.okc c hc)
theorem HIn.klen (H:HIn h g act cx f vl vw vp nw P w):(HKn act cx P).length≤10000:=by
 unfold HKn;have h1:=opsK_len _ H.okc;have h2:=H.hcl;have h3:=H.hpl;have e:(pendK (startN (cx.map (·.c))) act (P.map (·.1))).length=P.length:=by unfold pendK;simp
 rw[List.length_map] at h1;rw[List.length_append,e];omega
theorem HIn.kOk (H:HIn h g act cx f vl vw vp nw P w):KOk 1000080 (HKn act cx P):=by
 have h1:=Go.Proofs.YtamhlgflbacjgaaGreat.kOk H.inv H.fin (act:=act) H.pok;have h2:=H.nums;have h3:=H.hpl;exact⟨h1.nd,h1.up,fun q hq=>by have:=h1.top q hq;rw[List.length_map] at this;omega⟩
theorem HIn.ids (H:HIn h g act cx f vl vw vp nw P w):∀y∈(HKn act cx P).map (·.2),(1≤y.1∧y.1<startN (cx.map (·.c))+(P.length:Int))∧1≤y.2∧y.2≤99:=fun y hy=>by
 obtain⟨q,hq,rfl⟩:=List.mem_map.1 hy;unfold HKn at hq;rcases List.mem_append.1 hq with hq | hq
 ·have h0:=ids_below hq;obtain⟨c,hc,hq⟩:=mem_opsK.1 hq;obtain⟨k,hk,rfl⟩:=mem_opsC.1 hq;have h1:=chk_few (H.okc c hc);dsimp only at h0 ⊢;omega
 ·obtain⟨i,hi,rfl⟩:=mem_pend hq;have:=H.nums;have:=H.act;rw[List.length_map] at hi;dsimp only;omega
end
def ActP (h g:Nat) (act:Int) (vp:Value) (P:List OV) (N:Int) (w:World) (e:Ending) (w':World):Prop:=
 ∃r1 r2 t,e=.returned (.tuple #[.agg #[.int .i64 r1,.int .i64 r2],.int .i64 t])∧(I64 r1∧I64 r2)∧(Below w.heap.size w w'∨∃vp' pv o',
  KpS (fun b=>b=h∨vp.ownBlock=some b∨w.heap.size≤b) w w'∧w'.heap[h]?=some (.cells #[.int .i64 act,.pointer (some ⟨g,0,none⟩),vp'] 68)∧RowO 0 vp' (P++[(o',pv)]) w'∧(vp'.ownBlock=vp.ownBlock∨∃b,vp'.ownBlock=some b∧w.heap.size≤b)∧OwnI w.heap.size pv o'.preds w'∧o'.preds.length≤12∧(∀q∈o'.preds,I64 q.1∧I64 q.2)∧OpNums o'∧(o'.ins=true→o'.elem.1<N+(P.length:Int))∧P.length<40)
theorem act_fin {h g:Nat} {act:Int} {vp:Value} {P:List OV} {N:Int} {o:OpM} {I:List Pr} {w w5 w6:World} {e:Ending} {rb:Nat} {cur:Array Value} {x y:Value} (A:AddP h g act vp P o I w5 e w6) (B:Below w.heap.size w w5) (hh:h<w.heap.size) (hvp:∀b,vp.ownBlock=some b→b<w.heap.size) (hrb:w.heap.size≤rb) (hbx:w5.heap[rb]?=some (.cells cur 49)) (hI:∀q∈I,I64 q.1∧I64 q.2) (hn:OpNums o) (hel:o.ins=true→o.elem.1<N+(P.length:Int)):
 ActP h g act vp P N w e ((w6.setCell ⟨rb,0,none⟩ x).setCell ⟨rb,1,none⟩ y)∧w6.heap[rb]?=some (.cells cur 49):=by
 obtain⟨r1,r2,t,rfl,hr,hA⟩:=A;have hlt:=lt_of_heap hbx;have hsame:∀k,k≠rb→((w6.setCell ⟨rb,0,none⟩ x).setCell ⟨rb,1,none⟩ y).heap[k]?=w6.heap[k]?:=fun k k2=>by
  rw[Below.heap_setCell _ _ _ _ (by simpa using k2),Below.heap_setCell _ _ _ _ (by simpa using k2)]
 rcases hA with hb | ⟨vp',pv,PL,K,h1,h2,h3,h4,h5,h6,h7⟩
 ·exact⟨⟨r1,r2,t,rfl,hr,Or.inl (((B.trans (hb.mono B.size)).setCell hrb _).setCell hrb _)⟩,heap_below hbx hb lRf⟩
 ·have h8:w6.heap[rb]?=some (.cells cur 49):=(K.block rb hlt (fun hS=>by
   rcases hS with hS | hS | hS
   ·omega
   ·have:=hvp _ hS;omega
   ·omega)).trans hbx
  refine⟨⟨r1,r2,t,rfl,hr,Or.inr ⟨vp',pv,{o with preds:=PL},?_,?_,?_,?_,?_,h5,fun q hq=>hI q (h6 q hq),hn,hel,h7⟩⟩,h8⟩
  ·have K1:KpS (fun b=>b=h∨vp.ownBlock=some b∨w.heap.size≤b) w w6:=(KpS.of B).trans (K.mono fun k hk hS=>by
    rcases hS with hS | hS | hS
    ·exact Or.inl hS
    ·exact Or.inr (Or.inl hS)
    ·omega)
   exact(K1.trans (KpS.set (g:=rb) (i:=0) x (Or.inr (Or.inr hrb)))).trans (KpS.set (g:=rb) (i:=1) y (Or.inr (Or.inr hrb)))
  ·rw[hsame h (by omega)];exact h1
  ·exact own_stay h2 fun k hk=>hsame k (fun e=>own_ne_box h2 h8 (by decide) (e▸hk))
  ·rcases h3 with h3 | ⟨b,h3,h9⟩
   ·exact Or.inl h3
   ·exact Or.inr ⟨b,h3,Nat.le_trans B.size h9⟩
  ·exact own_mono (own_stay h4 fun k hk=>hsame k (fun e=>by have:=(h4.lt k hk).1;omega)) B.size
structure HOk (x:HR):Prop where
 fin:FInv (chgsOf x.EL)
 pok:PendOk (startN (chgsOf x.EL)) (x.P.map (·.1))
theorem Hands.inn {lo:Lo} {HS:List HR} {w:World} (H:Hands lo HS w) {x:HR} (hx:x∈HS) (ho:HOk x):∃f nw,HIn x.h x.g x.act (x.EL.map toCX) f x.vl x.vw x.vp nw x.P w:=by
 have A:=H.hand x hx;have hfew:x.EL.length+x.EW.length≤120:=by have:=A.ri.few;unfold chgsOf at this;rw[List.length_map,List.length_map] at this;exact this
 have hc:IsChgs w x.vl (x.EL.map toCX):=rowC_chgs A.rowL (by omega) fun p hp=>(H.fz x hx p (List.mem_append_left _ hp)).chg;obtain⟨f,hf⟩:=ops_choice hc;obtain⟨a,c,e⟩:=slice_row A.rowW;rw[List.length_map] at e;have em:(x.EL.map toCX).map (·.c)=chgsOf x.EL:=map_toCX _;refine⟨f,x.EW.length,A.box,A.bbox,hc,fun y hy=>?_,by rw[List.length_map];omega,hf,⟨a,c,e⟩,by omega,A.rowP,A.few,RowO.ops A.rowP (by have:=A.few;omega) fun q hq=>?_,by rw[em];exact A.ri.inv,by rw[em];exact ho.fin,by rw[em];exact ho.pok,A.act⟩
 ·obtain⟨p,hp,rfl⟩:=List.mem_map.1 hy;exact A.ri.inv.ok _ (mem_chgs.2 ⟨p,hp,rfl⟩)
 ·have h1:=H.fq x hx q hq;exact⟨(h1.2 w (KpS.refl _ _)).1,h1.1⟩
theorem own_pairs {B:Nat} {u:Value} {R:List Pr} {w:World} (h:OwnI B u R w) (hl:R.length≤1000000) (hr:∀q∈R,I64 q.1∧I64 q.2):IsPairs w u R∧Wh u:=by
 rcases h.2 with⟨rfl,h0⟩ | ⟨g,cap,cur,rfl,hg,hh,hc,_⟩
 ·exact⟨⟨none,0,by rw[h0],by omega,by omega,hr,fun h=>absurd (List.length_eq_zero_iff.1 h0) h⟩,Or.inl rfl⟩
 ·refine⟨⟨_,cap,rfl,hc,by omega,hr,fun _=>⟨g,0,rfl,lt_of_heap hh,fun i hi=>?_⟩⟩,Or.inr ⟨_,_,_,rfl⟩⟩;obtain⟨b,e1,_,s1,s2⟩:=own_id h hi rfl;have e2:g=b:=by injection e1 with e1;injection e1
  subst e2;rw[Nat.zero_add];exact⟨s1,s2⟩
structure Same (x x':HR):Prop where
 h:x'.h=x.h
 g:x'.g=x.g
 act:x'.act=x.act
def StepP (lo:Lo) (HS:List HR) (i:Nat) (x:HR) (w w':World):Prop:=∃x',Hands lo (HS.set i x') w'∧Same x x'∧HOk x'∧KpS (fun b=>x.live b∨w.heap.size≤b) w w'
theorem set_same {HS:List HR} {i:Nat} {x:HR} (hi:HS[i]?=some x):HS.set i x=HS:=by
 obtain⟨h,e⟩:=List.getElem?_eq_some_iff.1 hi;subst e;exact List.set_getElem_self h
theorem step_none {lo:Lo} {HS:List HR} {w w':World} (H:Hands lo HS w) {i:Nat} {x:HR} (hi:HS[i]?=some x) (ho:HOk x) (b:Below w.heap.size w w'):StepP lo HS i x w w':=
 ⟨x,by rw[set_same hi];exact H.below b,⟨rfl,rfl,rfl⟩,ho,KpS.of b⟩
theorem own_types {w:World} {B B' e e' s s' n n':Nat} {v u:Value} {xs ys:List Value} (h:w.ownsRow B e s v n xs) (g:w.ownsRow B' e' s' u n' ys) (hne:e≠e') {b:Nat} (hb:v.ownBlock=some b):u.ownBlock≠some b:=fun hu=>by
 obtain⟨c1,h1⟩:=own_type h hb;obtain⟨c2,h2⟩:=own_type g hu;rw[h1] at h2;injection h2 with h2
 injection h2 with _ h3 _
 exact hne h3
theorem act_step {lo:Lo} {HS:List HR} {w w':World} (H:Hands lo HS w) {i:Nat} {x:HR} (hi:HS[i]?=some x) (ho:HOk x) {e:Ending} (A:ActP x.h x.g x.act x.vp x.P (startN (chgsOf x.EL)) w e w'):
 ∃r1 r2 t,e=.returned (.tuple #[.agg #[.int .i64 r1,.int .i64 r2],.int .i64 t])∧(I64 r1∧I64 r2)∧StepP lo HS i x w w':=by
 obtain⟨r1,r2,t,rfl,hr,hA⟩:=A;refine⟨r1,r2,t,rfl,hr,?_⟩;have hx:=List.mem_of_getElem? hi;have X:=H.hand x hx;rcases hA with hb | ⟨vp',pv,o',K,h1,h2,h3,h4,h5,h6,h7,h8,h9⟩
 ·exact step_none H hi ho hb
 ·have K':KpS (fun b=>x.live b∨w.heap.size≤b) w w':=K.mono fun b _ hS=>by
   rcases hS with rfl | hS | hS
   ·exact Or.inl (Or.inl rfl)
   ·exact Or.inl (Or.inr (Or.inr (Or.inr (Or.inr hS))))
   ·exact Or.inr hS
  have out:∀b,b<w.heap.size→b≠x.h→x.vp.ownBlock≠some b→w'.heap[b]?=w.heap[b]?:=fun b hl n1 n2=>K.block b hl (fun hS=>by
   rcases hS with hS | hS | hS
   ·exact n1 hS
   ·exact n2 hS
   ·omega)
  have hl:∀b,(HR.live ⟨x.h,x.g,x.act,x.EL,x.EW,x.vl,x.vw,vp',x.P++[(o',pv)]⟩ b)→x.live b∨w.heap.size≤b:=fun b hb=>by
   rcases hb with hb | hb | hb | hb | hb
   ·exact Or.inl (Or.inl hb)
   ·exact Or.inl (Or.inr (Or.inl hb))
   ·exact Or.inl (Or.inr (Or.inr (Or.inl hb)))
   ·exact Or.inl (Or.inr (Or.inr (Or.inr (Or.inl hb))))
   ·rcases h3 with h3 | ⟨b',h3,h10⟩
    ·exact Or.inl (Or.inr (Or.inr (Or.inr (Or.inr (by rw[←h3];exact hb)))))
    ·rw[h3] at hb;obtain rfl:=Option.some.inj hb;exact Or.inr h10
  obtain⟨o1,o2⟩:=H.old hi K' hl;refine⟨⟨x.h,x.g,x.act,x.EL,x.EW,x.vl,x.vw,vp',x.P++[(o',pv)]⟩,H.step hi K' ⟨h1,?_,?_,?_,h2,X.ne,X.ri,X.act,by rw[List.length_append,List.length_singleton];omega⟩ hl (o1 x hx) (fun q hq=>?_),⟨rfl,rfl,rfl⟩,⟨ho.fin,?_⟩,K'⟩
  ·rw[out x.g (lt_of_heap X.bbox) (cells_apart X.bbox X.box (by decide)) (own_ne_box X.rowP X.bbox (by decide))];exact X.bbox
  ·exact own_stay X.rowL fun b hb=>out b (X.rowL.lt b hb).2 (fun e=>own_ne_box X.rowL X.box (by decide) (e▸hb)) (own_types X.rowL X.rowP (by decide) hb)
  ·exact own_stay X.rowW fun b hb=>out b (X.rowW.lt b hb).2 (fun e=>own_ne_box X.rowW X.box (by decide) (e▸hb)) (own_types X.rowW X.rowP (by decide) hb)
  ·rcases List.mem_append.1 hq with hq | hq
   ·exact o2 x hx q hq
   ·rw[List.mem_singleton.1 hq];refine⟨h7,fun w2 k2=>?_⟩;have hb:∀b,pv.ownBlock=some b→w2.heap[b]?=w'.heap[b]?:=fun b hb=>k2.block b (h4.lt b hb).2 (fun hS=>by
     have hge:=(h4.lt b hb).1;rcases hS with⟨y,hy,hyb⟩ | hS
     ·rcases List.mem_or_eq_of_mem_set hy with hy | rfl
      ·have:=(H.hand y hy).lt hyb;omega
      ·rcases hyb with hyb | hyb | hyb | hyb | hyb
       ·have:=X.lt (b:=b) (Or.inl hyb);omega
       ·have:=X.lt (b:=b) (Or.inr (Or.inl hyb));omega
       ·have:=(X.rowL.lt b hyb).2;omega
       ·have:=(X.rowW.lt b hyb).2;omega
       ·exact own_types h4 h2 (by decide) hb hyb
     ·rcases hS with hS | hS
      ·have:=(h4.lt b hb).2;omega
      ·have:=H.dl b hS;omega)
    exact own_pairs (own_stay h4 hb) (Nat.le_trans h5 (by decide)) h6
  ·intro k hk hins;rw[List.length_map,List.length_append,List.length_singleton] at hk;have e:∀(h:k<((x.P++[(o',pv)]).map (·.1)).length),((x.P++[(o',pv)]).map (·.1))[k]=if h':k<x.P.length then (x.P.map (·.1))[k]'(by rw[List.length_map];exact h') else o':=fun h=>by
    rw[List.getElem_map];split
    ·rename_i h';rw[List.getElem_append_left h',List.getElem_map]
    ·rename_i h';rw[List.getElem_append_right (by omega)];simp
   dsimp only at hins ⊢;rw[e] at hins ⊢;by_cases h':k<x.P.length
   ·rw[dif_pos h'] at hins ⊢;exact ho.pok k (by rw[List.length_map];exact h') hins
   ·rw[dif_neg h'] at hins ⊢;have:=h8 hins;obtain rfl:k=x.P.length:=by omega
    exact this
end Go.Proofs.YtamhlgflbacjgaaGreat
