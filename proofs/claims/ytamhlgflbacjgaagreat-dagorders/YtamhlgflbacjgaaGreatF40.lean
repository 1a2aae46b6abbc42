/-
  What is proved: as each theorem says.
  Conditions: as each theorem says.
-/
import Derived.Test.YtamhlgflbacjgaaGreatF00
import Derived.Test.YtamhlgflbacjgaaGreatF33
set_option maxRecDepth 100000
set_option maxHeartbeats 16000000
namespace Go.Proofs.YtamhlgflbacjgaaGreat
open Go.RowKit Go.Sort
structure DS (w:World) (ob:Obj) (rb jb:Nat) (u:Value) (ll:List KE) (wr:World):Prop where
 o:wr.heap[w.heap.size]?=some ob
 r:wr.heap[rb]?=some (.cells #[.int .i64 0,.int .i64 0] 49)
 j:wr.heap[jb]?=some (.cells #[u] 102)
 b:Below w.heap.size w wr
 row:RowK w.heap.size u ll wr
 pr:∀q∈ll,IsPairs w q.1.2 q.1.1.preds
 few:ll.length≤1000000
theorem DS.next {w wr w':World} {ob:Obj} {rb jb:Nat} {u:Value} {ll:List KE} (h:DS w ob rb jb u ll wr) (b:Below wr.heap.size wr w'):DS w ob rb jb u ll w':=⟨heap_below h.o b lRf,heap_below h.r b lRf,heap_below h.j b lRf,h.b.trans (b.mono h.b.size),own_below h.row b lRf,h.pr,h.few⟩
theorem DS.kn {w wr:World} {ob:Obj} {rb jb:Nat} {u:Value} {ll:List KE} (h:DS w ob rb jb u ll wr):IsKn wr u ll:=RowK.kn h.row h.few fun q hq=>(h.pr q hq).below h.b
theorem rDoKey_any (h g:Nat) (act:Int) (cx:List CX) (f:CX→List OV) (vl vw vp:Value) (nw:Nat) (P:List OV) (o:OpM) (w:World) (H:HIn h g act cx f vl vw vp nw P w) (hn:OpNums o) (hib:o.ins=false):
 Calls Tryz.prog 20 #[.pointer (some ⟨h,0,none⟩),.agg (opA o false (.slice none 0 0))] w fun e w'=>ActP h g act vp P (startN (cx.map (·.c))) w e w':=by
 have HX:=hY3 H hn hib;obtain⟨N,hN⟩:=gNz (startN (cx.map (·.c)));have HN:Hid (startN (cx.map (·.c))=N):=hN;obtain⟨post,hpost⟩:∃post:Ending→World→Prop,post=fun e w'=>ActP h g act vp P N w e w':=⟨_,rfl⟩
 have HPO:Hid (post=fun e w'=>ActP h g act vp P N w e w'):=hpost;rw[hN,←hpost];clear H hn hib hN hpost;go_enter Tryz.func20,Tryz.ntmps20
 go_upto_region 1 with fail
 obtain⟨q0,q1,q2⟩:=two_boxes w (.cells (opA o false (.slice none 0 0)) 62) (.cells #[.int .i64 0,.int .i64 0] 49);generalize (w.alloc (.cells (opA o false (.slice none 0 0)) 62)).alloc (.cells #[.int .i64 0,.int .i64 0] 49)=W0 at *;obtain⟨rb,hrb⟩:=gNz (w.heap.size+1);rw[hrb] at q1 ⊢;have HS0:=hY4 q0 q1 q2 ((by omega):w.heap.size<rb);have H0:=HX.out.1.below q2;have E1:=rJ_any h g act cx f vl vw vp P W0 H0.hb H0.bb H0.hc H0.hok H0.hf (by have:=H0.hcl;omega) H0.hpo H0.hpl;change Calls _ _ _ _ (fun e w'=>JP W0 cx f P (HKn act cx P) e w') at E1;clear q0 q1 q2 hrb H0;go_wp2_with fail;go_fit E1;rintro e w1 ⟨u,ll,rfl,hkn,hkp,hkm,hkl,b1⟩;obtain⟨ua,uc,hu⟩:=own_form hkn;obtain⟨un,hun⟩:=gNz (ll.length);rw[hun] at hu;subst hu;have HLL:Hid (keM ll=HKn act cx P):=hkm;have bx:=bAl w1 (.cells #[.slice ua un uc] 102);have HD2:Hid (DS w (.cells (opA o false (.slice none 0 0)) 62) rb w1.heap.size (.slice ua un uc) ll (w1.alloc (.cells #[.slice ua un uc] 102))):=⟨heap_below (heap_below HS0.out.1 b1 lRf) bx lRf,heap_below (heap_below HS0.out.2.1 b1 lRf) bx lRf,heap_alloc_new w1 _,(HS0.out.2.2.1.trans (b1.mono HS0.out.2.2.1.size)).trans (bx.mono (Nat.le_trans HS0.out.2.2.1.size b1.size)),own_mono (own_below hkn bx lRf) HS0.out.2.2.1.size,fun q hq=>by
  rcases hkp q hq with⟨x,hx,hq⟩ | hq
  ·obtain⟨_,_,_,_,_,h1,_⟩:=(HX.out.1.hf x hx).1;exact(h1 _ hq).1
  ·obtain⟨_,_,_,_,_,h1,_⟩:=HX.out.1.hpo;exact(h1 _ hq).1,hkl⟩
 have HRB:Hid (w.heap.size<rb):=HS0.out.2.2.2;have HBAD:Hid (∀(W:World) (t:Int),Below w.heap.size w W→post (.returned (.tuple #[.agg #[.int .i64 0,.int .i64 0],.int .i64 t])) ((W.setCell ⟨rb,0,none⟩ (.int .i64 0)).setCell ⟨rb,1,none⟩ (.int .i64 0))):=fun W t hS=>by
  rw[HPO.out];exact⟨_,_,_,rfl,⟨by unfold I64;omega,by unfold I64;omega⟩,Or.inl ((hS.setCell (Nat.le_of_lt HRB.out) _).setCell (Nat.le_of_lt HRB.out) _)⟩
 clear hkn hkp hkm hkl b1 hun bx HS0 E1;go_upto_region 2 with fail
 generalize w1.alloc (.cells #[.slice ua un uc] 102)=w2 at *;generalize w1.heap.size=jb at *;obtain⟨z1,hz1⟩:=gNz (okB o.val);obtain⟨z2,hz2⟩:=gNz (decide (o.val.k=5∨o.val.k=6));have E2:=rValue_any o.val w2;unfold V.val at E2;rw[hz1] at E2;obtain⟨-,-,-,-,-,-,-,y7,y8,y9,y10,y11,-⟩:=cLs HD2.out.o;clear hz1;go_wp2_with fail;go_fit E2;rintro e w3 ⟨rfl,b3⟩;have HD3:Hid (DS w (.cells (opA o false (.slice none 0 0)) 62) rb jb (.slice ua un uc) ll w3):=HD2.out.next b3;clear b3 E2 HD2 y7 y8 y9 y10 y11;have E3:=rObject_any o.val w3;unfold V.val at E3;rw[hz2] at E3;obtain⟨-,-,-,-,-,-,-,y7,y8,y9,y10,y11,-⟩:=cLs HD3.out.o;clear hz2;go_wp2_with fail;go_fit E3;rintro e w4 ⟨rfl,b4⟩;have HD4:Hid (DS w (.cells (opA o false (.slice none 0 0)) 62) rb jb (.slice ua un uc) ll w4):=HD3.out.next b4;clear b4 E3 HD3 y7 y8 y9 y10 y11;have E4:=rKey_any (.slice ua un uc) ll o.obj o.key w4 HD4.out.kn;have c0:w4.cell? ⟨jb,0,none⟩=some (.slice ua un uc):=cLo HD4.out.j 0;obtain⟨-,y1,y2,y3,-⟩:=cLs HD4.out.o;go_wp2_with fail;go_fit E4;rintro e w5 ⟨⟨x,rfl⟩,b5⟩;have HD5:Hid (DS w (.cells (opA o false (.slice none 0 0)) 62) rb jb (.slice ua un uc) ll w5):=HD4.out.next b5;clear b5 E4 HD4 c0 y1 y2 y3;obtain⟨y0,-,-,-,-,-,-,y7,-⟩:=cLs HD5.out.o;go_upto_region 5 with fail
 go_cut [54] from 24 to 53 (fun b wx=>∃bb,b=.bool bb∧wx=w5)
 case first=>
  by_cases hx0:x=0
  ·subst hx0;by_cases hk1:o.kind=1
   ·rw[hk1] at y0;clear hk1;cases z1 with
    | false=>
     go_wp2;go_meet
     case rel=>exact⟨_,rfl,rfl⟩
    | true=>
     cases z2 with
     | true=>
      go_wp2;go_meet
      case rel=>exact⟨_,rfl,rfl⟩
     | false=>
      go_wp2;go_meet
      case rel=>exact⟨_,rfl,rfl⟩
   ·have dk1:(o.kind==1)=false:=by simpa using hk1
    clear hk1;by_cases hk2:o.kind=2
    ·rw[hk2] at y0;clear hk2 dk1;by_cases h5:o.val.k=5
     ·rw[h5] at y7;clear h5;go_wp2;go_meet
      case rel=>exact⟨_,rfl,rfl⟩
     ·have d5:(o.val.k !=5)=true:=by simpa using h5
      clear h5;go_wp2;go_meet
      case rel=>exact⟨_,rfl,rfl⟩
    ·have dk2:(o.kind==2)=false:=by simpa using hk2
     clear hk2;go_wp2;go_meet
     case rel=>exact⟨_,rfl,rfl⟩
  ·have dx:(x==0)=false:=by simpa using hx0
   clear hx0;go_wp2;go_meet
   case rel=>exact⟨_,rfl,rfl⟩
 case rest=>
  obtain⟨bb,rfl,hwc⟩:=hcut;subst hwc;clear y0 y7;cases bb with
  | true=>
   have HE:=HBAD.out wc 1 HD5.out.b;have HE1:Hid (_):=HE;obtain⟨r0,r1,-⟩:=cLs HD5.out.r;have rf:=fRz HD5.out.r 0;have rf1:=fRz HD5.out.r 1;have k0:((wc.setCell ⟨rb,0,none⟩ (.int .i64 0)).setCell ⟨rb,1,none⟩ (.int .i64 0)).cell? ⟨rb,0,none⟩=some (.int .i64 0):=by rw[World.cell?_setCell_other _ _ _ _ (by simp)];exact World.cell?_setCell_same _ _ _ r0
   have k1:((wc.setCell ⟨rb,0,none⟩ (.int .i64 0)).setCell ⟨rb,1,none⟩ (.int .i64 0)).cell? ⟨rb,1,none⟩=some (.int .i64 0):=World.cell?_setCell_same _ _ _ (by rw[World.cell?_setCell_other _ _ _ _ (by simp)];exact r1);clear HE;go_wp2_with fail;generalize (wc.setCell ⟨rb,0,none⟩ (.int .i64 0)).setCell ⟨rb,1,none⟩ (.int .i64 0)=w9 at *;exact bodyPost_ret (v:=.tuple #[.agg #[.int .i64 0,.int .i64 0],.int .i64 1]) (by simp[results,Tryz.results20,go_sem,k0,k1]) rfl HE1.out
  | false=>
   by_cases hx0:x=0
   ·subst hx0;have HH:=HX.out.1.below HD5.out.b;have HIDS:Hid (∀q∈(keM ll).map (·.2),I64 q.1∧I64 q.2):=fun q hq=>by
     rw[HLL.out] at hq;have h1:=HX.out.1.ids q hq;have h2:=HX.out.1.nums;have h3:=HX.out.1.hpl;unfold I64;omega
    have HHX:Hid (h<w.heap.size∧∀b,vp.ownBlock=some b→b<w.heap.size):=⟨lt_of_heap HX.out.1.hb,fun b e=>(HX.out.1.hp.lt b e).2⟩
    have HUL:Hid (ll.length≤900000):=by
     have h1:=HX.out.1.klen;rw[←HLL.out,keM_len] at h1;show _≤_;omega
    have EA:=rAddI_any false h g act cx vl vw vp (.slice ua un uc) P nw ll o (0,0) wc HX.out.2.2 HH.hb HH.bb HH.hc HH.hok HH.hcl HH.hw HH.hnw HH.hp HH.hpl HD5.out.kn HUL.out (by have:=HX.out.1.act;unfold I64;omega);clear HH;obtain⟨y0,y1,y2,y3,y4,y5,y6,y7,y8,y9,y10,y11,y12,-⟩:=cLs HD5.out.o;have c0:wc.cell? ⟨jb,0,none⟩=some (.slice ua un uc):=cLo HD5.out.j 0;go_wp2_with fail;go_fit EA;rintro e w6 hA;obtain⟨r1,r2,t,he,_⟩:=id hA;subst he;obtain⟨hfin,hrb6⟩:=act_fin (N:=N) (x:=.int .i64 r1) (y:=.int .i64 r2) hA HD5.out.b HHX.out.1 HHX.out.2 (Nat.le_of_lt HRB.out) HD5.out.r HIDS.out HX.out.2.1 (fun e=>by rw[HX.out.2.2] at e;cases e);have HFIN:Hid (post (.returned (.tuple #[.agg #[.int .i64 r1,.int .i64 r2],.int .i64 t])) ((w6.setCell ⟨rb,0,none⟩ (.int .i64 r1)).setCell ⟨rb,1,none⟩ (.int .i64 r2))):=by show post _ _;rw[HPO.out];exact hfin
    obtain⟨r0,rr1,-⟩:=cLs hrb6;have rf:=fRz hrb6 0;have rf1:=fRz hrb6 1;have k0:((w6.setCell ⟨rb,0,none⟩ (.int .i64 r1)).setCell ⟨rb,1,none⟩ (.int .i64 r2)).cell? ⟨rb,0,none⟩=some (.int .i64 r1):=by rw[World.cell?_setCell_other _ _ _ _ (by simp)];exact World.cell?_setCell_same _ _ _ r0
    have k1:((w6.setCell ⟨rb,0,none⟩ (.int .i64 r1)).setCell ⟨rb,1,none⟩ (.int .i64 r2)).cell? ⟨rb,1,none⟩=some (.int .i64 r2):=World.cell?_setCell_same _ _ _ (by rw[World.cell?_setCell_other _ _ _ _ (by simp)];exact rr1);clear hfin hrb6 hA EA y0 y1 y2 y3 y4 y5 y6 y7 y8 y9 y10 y11 y12 c0;go_wp2_with fail;generalize (w6.setCell ⟨rb,0,none⟩ (.int .i64 r1)).setCell ⟨rb,1,none⟩ (.int .i64 r2)=w9 at *;exact bodyPost_ret (v:=.tuple #[.agg #[.int .i64 r1,.int .i64 r2],.int .i64 t]) (by simp[results,Tryz.results20,go_sem,k0,k1]) rfl HFIN.out
   ·have dx:(x !=0)=true:=by simpa using hx0
    clear hx0;have HE:=HBAD.out wc x HD5.out.b;have HE1:Hid (_):=HE;obtain⟨r0,r1,-⟩:=cLs HD5.out.r;have rf:=fRz HD5.out.r 0;have rf1:=fRz HD5.out.r 1;have k0:((wc.setCell ⟨rb,0,none⟩ (.int .i64 0)).setCell ⟨rb,1,none⟩ (.int .i64 0)).cell? ⟨rb,0,none⟩=some (.int .i64 0):=by rw[World.cell?_setCell_other _ _ _ _ (by simp)];exact World.cell?_setCell_same _ _ _ r0
    have k1:((wc.setCell ⟨rb,0,none⟩ (.int .i64 0)).setCell ⟨rb,1,none⟩ (.int .i64 0)).cell? ⟨rb,1,none⟩=some (.int .i64 0):=World.cell?_setCell_same _ _ _ (by rw[World.cell?_setCell_other _ _ _ _ (by simp)];exact r1);clear HE;go_wp2_with fail;generalize (wc.setCell ⟨rb,0,none⟩ (.int .i64 0)).setCell ⟨rb,1,none⟩ (.int .i64 0)=w9 at *;exact bodyPost_ret (v:=.tuple #[.agg #[.int .i64 0,.int .i64 0],.int .i64 x]) (by simp[results,Tryz.results20,go_sem,k0,k1]) rfl HE1.out
theorem rDoT_any (h g:Nat) (act:Int) (cx:List CX) (f:CX→List OV) (vl vw vp:Value) (nw:Nat) (P:List OV) (o:OpM) (ix:Int) (w:World) (hix:I64 ix) (H:HIn h g act cx f vl vw vp nw P w) (hn:OpNums o) (hib:o.ins=true) (hel:o.elem=(0,0)):
 Calls Tryz.prog 23 #[.pointer (some ⟨h,0,none⟩),.agg (opA o true (.slice none 0 0)),.int .i64 ix] w fun e w'=>ActP h g act vp P (startN (cx.map (·.c))) w e w':=by
 have HEL:=hY2 hel hix;clear hel hix;have HX:=hY3 H hn hib;obtain⟨N,hN⟩:=gNz (startN (cx.map (·.c)));have HN:Hid (startN (cx.map (·.c))=N):=hN;obtain⟨post,hpost⟩:∃post:Ending→World→Prop,post=fun e w'=>ActP h g act vp P N w e w':=⟨_,rfl⟩
 have HPO:Hid (post=fun e w'=>ActP h g act vp P N w e w'):=hpost;rw[hN,←hpost];clear H hn hib hN hpost;go_enter Tryz.func23,Tryz.ntmps23
 go_upto_region 1 with fail
 obtain⟨q0,q1,q2⟩:=two_boxes w (.cells (opA o true (.slice none 0 0)) 62) (.cells #[.int .i64 0,.int .i64 0] 49);generalize (w.alloc (.cells (opA o true (.slice none 0 0)) 62)).alloc (.cells #[.int .i64 0,.int .i64 0] 49)=W0 at *;obtain⟨rb,hrb⟩:=gNz (w.heap.size+1);rw[hrb] at q1 ⊢;have HS0:=hY4 q0 q1 q2 ((by omega):w.heap.size<rb);have H0:=HX.out.1.below q2;have E1:=rJ_any h g act cx f vl vw vp P W0 H0.hb H0.bb H0.hc H0.hok H0.hf (by have:=H0.hcl;omega) H0.hpo H0.hpl;change Calls _ _ _ _ (fun e w'=>JP W0 cx f P (HKn act cx P) e w') at E1;clear q0 q1 q2 hrb H0;go_wp2_with fail;go_fit E1;rintro e w1 ⟨u,ll,rfl,hkn,hkp,hkm,hkl,b1⟩;obtain⟨ua,uc,hu⟩:=own_form hkn;obtain⟨un,hun⟩:=gNz (ll.length);rw[hun] at hu;subst hu;have HLL:Hid (keM ll=HKn act cx P):=hkm;have bx:=bAl w1 (.cells #[.slice ua un uc] 102);have HD2:Hid (DS w (.cells (opA o true (.slice none 0 0)) 62) rb w1.heap.size (.slice ua un uc) ll (w1.alloc (.cells #[.slice ua un uc] 102))):=⟨heap_below (heap_below HS0.out.1 b1 lRf) bx lRf,heap_below (heap_below HS0.out.2.1 b1 lRf) bx lRf,heap_alloc_new w1 _,(HS0.out.2.2.1.trans (b1.mono HS0.out.2.2.1.size)).trans (bx.mono (Nat.le_trans HS0.out.2.2.1.size b1.size)),own_mono (own_below hkn bx lRf) HS0.out.2.2.1.size,fun q hq=>by
  rcases hkp q hq with⟨x,hx,hq⟩ | hq
  ·obtain⟨_,_,_,_,_,h1,_⟩:=(HX.out.1.hf x hx).1;exact(h1 _ hq).1
  ·obtain⟨_,_,_,_,_,h1,_⟩:=HX.out.1.hpo;exact(h1 _ hq).1,hkl⟩
 have HRB:Hid (w.heap.size<rb):=HS0.out.2.2.2;have HBAD:Hid (∀(W:World) (t:Int),Below w.heap.size w W→post (.returned (.tuple #[.agg #[.int .i64 0,.int .i64 0],.int .i64 t])) ((W.setCell ⟨rb,0,none⟩ (.int .i64 0)).setCell ⟨rb,1,none⟩ (.int .i64 0))):=fun W t hS=>by
  rw[HPO.out];exact⟨_,_,_,rfl,⟨by unfold I64;omega,by unfold I64;omega⟩,Or.inl ((hS.setCell (Nat.le_of_lt HRB.out) _).setCell (Nat.le_of_lt HRB.out) _)⟩
 clear hkn hkp hkm hkl b1 hun bx HS0 E1;go_upto_region 2 with fail
 generalize w1.alloc (.cells #[.slice ua un uc] 102)=w2 at *;generalize w1.heap.size=jb at *;obtain⟨z1,hz1⟩:=gNz (okB o.val);obtain⟨z2,hz2⟩:=gNz (decide (o.val.k=5∨o.val.k=6));have E2:=rValue_any o.val w2;unfold V.val at E2;rw[hz1] at E2;obtain⟨-,-,-,-,-,-,-,y7,y8,y9,y10,y11,-⟩:=cLs HD2.out.o;clear hz1;go_wp2_with fail;go_fit E2;rintro e w3 ⟨rfl,b3⟩;have HD3:Hid (DS w (.cells (opA o true (.slice none 0 0)) 62) rb jb (.slice ua un uc) ll w3):=HD2.out.next b3;clear b3 E2 HD2 y7 y8 y9 y10 y11;have E3:=rObject_any o.val w3;unfold V.val at E3;rw[hz2] at E3;obtain⟨-,-,-,-,-,-,-,y7,y8,y9,y10,y11,-⟩:=cLs HD3.out.o;clear hz2;go_wp2_with fail;go_fit E3;rintro e w4 ⟨rfl,b4⟩;have HD4:Hid (DS w (.cells (opA o true (.slice none 0 0)) 62) rb jb (.slice ua un uc) ll w4):=HD3.out.next b4;clear b4 E3 HD3 y7 y8 y9 y10 y11;obtain⟨y0,-,-,-,-,-,-,y7,-⟩:=cLs HD4.out.o;go_upto_region 5 with fail
 go_cut [49] from 23 to 48 (fun b wx=>∃bb,b=.bool bb∧wx=w4)
 case first=>
  by_cases hk1:o.kind=1
  ·rw[hk1] at y0;clear hk1;cases z1 with
   | false=>
    go_wp2;go_meet
    case rel=>exact⟨_,rfl,rfl⟩
   | true=>
    cases z2 with
    | true=>
     go_wp2;go_meet
     case rel=>exact⟨_,rfl,rfl⟩
    | false=>
     go_wp2;go_meet
     case rel=>exact⟨_,rfl,rfl⟩
  ·have dk1:(o.kind==1)=false:=by simpa using hk1
   clear hk1;by_cases hk2:o.kind=2
   ·rw[hk2] at y0;clear hk2 dk1;by_cases h5:o.val.k=5
    ·rw[h5] at y7;clear h5;go_wp2;go_meet
     case rel=>exact⟨_,rfl,rfl⟩
    ·have d5:(o.val.k !=5)=true:=by simpa using h5
     clear h5;go_wp2;go_meet
     case rel=>exact⟨_,rfl,rfl⟩
   ·have dk2:(o.kind==2)=false:=by simpa using hk2
    clear hk2;go_wp2;go_meet
    case rel=>exact⟨_,rfl,rfl⟩
 case rest=>
  obtain⟨bb,rfl,hwc⟩:=hcut;subst hwc;clear y0 y7;obtain⟨wq,hwq⟩:∃x:World,x=wc:=⟨wc,rfl⟩
  subst hwq;go_upto_if 49 with fail
  go_cut [11] from 49 to 49 (fun b wx=>∃bz:Int,b=.int .i64 bz∧wx=wq)
  case first=>
   cases bb with
   | true=>
    go_wp2;go_meet
    case rel=>exact⟨_,rfl,rfl⟩
   | false=>
    go_wp2;go_meet
    case rel=>exact⟨_,rfl,rfl⟩
  case rest=>
   obtain⟨bz,rfl,hwc⟩:=hcut;subst hwc;have HKO:Hid (KOk 1000080 (keM ll)∧ll.length≤900000):=by
    have h1:=HX.out.1.klen;have h2:=HX.out.1.kOk;rw[←HLL.out] at h1 h2;rw[keM_len] at h1;exact⟨h2,by omega⟩
   have E5:=rIndex_any 1000080 1000080 (.slice ua un uc) ll o.obj ix 1 wc HD4.out.kn HKO.out.1 HKO.out.2 (by omega) (by omega);obtain⟨-,y1,y2,-,-,-,y6,-⟩:=cLs HD4.out.o;have c0:wc.cell? ⟨jb,0,none⟩=some (.slice ua un uc):=cLo HD4.out.j 0;clear HKO;go_wp2_with fail;go_fit E5;rintro e w5 ⟨u5,x,rfl,b5,hidx⟩;have HD5:Hid (DS w (.cells (opA o true (.slice none 0 0)) 62) rb jb (.slice ua un uc) ll w5):=HD4.out.next b5;have HDX:Hid (x=0→∃Q,OwnI wc.heap.size u5 Q w5∧0≤ix∧ix<(Q.length:Int)+1∧Q.length≤900000∧∀y∈Q,y∈(keM ll).map (·.2)):=hidx;have HRF:=hY2 (lt_of_heap HD4.out.r) (lt_of_heap HD4.out.o);clear b5 hidx E5 HD4 y1 y2 y6 c0;by_cases hx0:x=0
   ·subst hx0;by_cases hz0:bz=0
    ·subst hz0;obtain⟨Q,hQr,hQ0,hQ1,hQ2,hQ3⟩:=HDX.out rfl;obtain⟨a5,c5,e5⟩:=own_form hQr;obtain⟨qn,hqn⟩:=gNz (Q.length);rw[hqn] at e5;subst e5;have HQ:=hY6 hQr hQ0 hQ1 hQ2 hQ3 hqn;clear hQr hQ0 hQ1 hQ2 hQ3 hqn HDX;obtain⟨-,-,-,-,-,-,y6,-⟩:=cLs HD5.out.o;by_cases hpos:(0:Int)<ix
     ·have hpos2:decide ((0:Int)<ix)=true:=decide_eq_true hpos;obtain⟨mm,hmm⟩:∃m:Nat,ix=(m:Int)+1:=⟨(ix - 1).toNat,by omega⟩
      have hmQ:mm<Q.length:=by have:=HQ.out.2.2.1;omega
      have hmn:(mm:Int)<qn:=by have:=HQ.out.2.2.2.2.2;omega
      have hw1:IntKind.i64.wrap (ix - 1)=(mm:Int):=by rw[IntWalk.i64_in _ (by have:=HQ.out.2.2.2.1;omega)];omega
      have hw1b:wrap64 (ix - 1)=(mm:Int):=by have:=HQ.out.2.2.2.1;unfold wrap64;omega
      have hm0:(0:Int)≤mm:=by omega
      clear hpos hmm;obtain⟨y,hy⟩:=gNz (Q[mm]:Pr);obtain⟨b2,rfl,hb2,j0,j1⟩:=own_id HQ.out.1 hmQ hy;have HYI:Hid ((1≤y.1∧y.1<N+(P.length:Int))∧1≤y.2∧y.2≤99):=by
       have h1:=HQ.out.2.2.2.2.1 Q[mm] (List.getElem_mem hmQ);rw[hy,HLL.out] at h1;have h2:=HX.out.1.ids y h1;rw[HN.out] at h2;exact h2
      have hbx:=HD5.out.o;obtain⟨-,-,-,-,y4,y5,-⟩:=cLs hbx;have yf:=fRz hbx 4;have yf5:=fRz hbx 5;have HD6:Hid (DS w (.cells #[.int .i64 o.kind,.int .i64 o.obj.1,.int .i64 o.obj.2,.string o.key,.int .i64 y.1,.int .i64 y.2,.bool true,.int .i64 o.val.k,.int .i64 o.val.n,.string o.val.t,.int .i64 o.val.o,.int .i64 o.val.a,.slice none 0 0] 62) rb jb (.slice ua un uc) ll ((w5.setCell ⟨w.heap.size,4,none⟩ (.int .i64 y.1)).setCell ⟨w.heap.size,5,none⟩ (.int .i64 y.2))):=by
       have hr:=HD5.out.r;have hj:=HD5.out.j;have n1:rb≠w.heap.size:=cells_apart hr hbx (by decide);have n2:jb≠w.heap.size:=cells_apart hj hbx (by decide);have hB:Below w.heap.size w ((w5.setCell ⟨w.heap.size,4,none⟩ (.int .i64 y.1)).setCell ⟨w.heap.size,5,none⟩ (.int .i64 y.2)):=(HD5.out.b.setCell lRf _).setCell lRf _;have hb4:(w5.setCell ⟨w.heap.size,4,none⟩ (.int .i64 y.1)).heap[w.heap.size]?=some (.cells ((opA o true (.slice none 0 0)).setIfInBounds 4 (.int .i64 y.1)) 62):=set_at hbx 4 _;refine⟨?_,heap_set_other (heap_set_other hr n1) n1,heap_set_other (heap_set_other hj n2) n2,hB,own_set_other (own_set_other HD5.out.row hbx (by decide)) hb4 (by decide),HD5.out.pr,HD5.out.few⟩;rw[set_at (set_at hbx 4 _) 5 _];rfl
      go_upto_region 18 with fail
      generalize (w5.setCell ⟨w.heap.size,4,none⟩ (.int .i64 y.1)).setCell ⟨w.heap.size,5,none⟩ (.int .i64 y.2)=w7 at *;clear y4 y5 y6 yf yf5 hbx j0 j1 hb2 hy hmQ hpos2 hw1 hw1b hmn hm0;have HYN:Hid (OpNums {o with elem:=y}):=by
       have h1:=HX.out.2.1;have h2:=HYI.out;have h3:=HX.out.1.nums;have h4:=HX.out.1.hpl;rw[HN.out] at h3;refine⟨h1.1,h1.2.1,⟨?_,?_⟩,h1.2.2.2⟩
       ·unfold I64;dsimp only;omega
       ·unfold I64;dsimp only;omega
      have HH:=HX.out.1.below HD6.out.b;have HIDS:Hid (∀q∈(keM ll).map (·.2),I64 q.1∧I64 q.2):=fun q hq=>by
       rw[HLL.out] at hq;have h1:=HX.out.1.ids q hq;have h2:=HX.out.1.nums;have h3:=HX.out.1.hpl;unfold I64;omega
      have HHX:Hid (h<w.heap.size∧∀b,vp.ownBlock=some b→b<w.heap.size):=⟨lt_of_heap HX.out.1.hb,fun b e=>(HX.out.1.hp.lt b e).2⟩
      have HUL:Hid (ll.length≤900000):=by
       have h1:=HX.out.1.klen;rw[←HLL.out,keM_len] at h1;show _≤_;omega
      have EA:=rAddI_any true h g act cx vl vw vp (.slice ua un uc) P nw ll {o with elem:=y} (0,0) w7 HX.out.2.2 HH.hb HH.bb HH.hc HH.hok HH.hcl HH.hw HH.hnw HH.hp HH.hpl HD6.out.kn HUL.out (by have:=HX.out.1.act;unfold I64;omega);clear HH;obtain⟨y0,y1,y2,y3,y4,y5,y6,y7,y8,y9,y10,y11,y12,-⟩:=cLs HD6.out.o;have c0:w7.cell? ⟨jb,0,none⟩=some (.slice ua un uc):=cLo HD6.out.j 0;try dsimp only at EA
      go_wp2_with fail;go_fit EA;rintro e w6 hA;obtain⟨r1,r2,t,he,_⟩:=id hA;subst he;obtain⟨hfin,hrb6⟩:=act_fin (N:=N) (x:=.int .i64 r1) (y:=.int .i64 r2) hA HD6.out.b HHX.out.1 HHX.out.2 (Nat.le_of_lt HRB.out) HD6.out.r HIDS.out HYN.out (fun _=>HYI.out.1.2);have HFIN:Hid (post (.returned (.tuple #[.agg #[.int .i64 r1,.int .i64 r2],.int .i64 t])) ((w6.setCell ⟨rb,0,none⟩ (.int .i64 r1)).setCell ⟨rb,1,none⟩ (.int .i64 r2))):=by show post _ _;rw[HPO.out];exact hfin
      obtain⟨r0,rr1,-⟩:=cLs hrb6;have rf:=fRz hrb6 0;have rf1:=fRz hrb6 1;have k0:((w6.setCell ⟨rb,0,none⟩ (.int .i64 r1)).setCell ⟨rb,1,none⟩ (.int .i64 r2)).cell? ⟨rb,0,none⟩=some (.int .i64 r1):=by rw[World.cell?_setCell_other _ _ _ _ (by simp)];exact World.cell?_setCell_same _ _ _ r0
      have k1:((w6.setCell ⟨rb,0,none⟩ (.int .i64 r1)).setCell ⟨rb,1,none⟩ (.int .i64 r2)).cell? ⟨rb,1,none⟩=some (.int .i64 r2):=World.cell?_setCell_same _ _ _ (by rw[World.cell?_setCell_other _ _ _ _ (by simp)];exact rr1);clear hfin hrb6 hA EA y0 y1 y2 y3 y4 y5 y6 y7 y8 y9 y10 y11 y12 c0;go_wp2_with fail;generalize (w6.setCell ⟨rb,0,none⟩ (.int .i64 r1)).setCell ⟨rb,1,none⟩ (.int .i64 r2)=w9 at *;exact bodyPost_ret (v:=.tuple #[.agg #[.int .i64 r1,.int .i64 r2],.int .i64 t]) (by simp[results,Tryz.results23,go_sem,k0,k1]) rfl HFIN.out
     ·have hpos2:decide ((0:Int)<ix)=false:=decide_eq_false hpos;clear hpos;go_upto_region 18 with fail
      clear y6 hpos2;have HH:=HX.out.1.below HD5.out.b;have HIDS:Hid (∀q∈(keM ll).map (·.2),I64 q.1∧I64 q.2):=fun q hq=>by
       rw[HLL.out] at hq;have h1:=HX.out.1.ids q hq;have h2:=HX.out.1.nums;have h3:=HX.out.1.hpl;unfold I64;omega
      have HHX:Hid (h<w.heap.size∧∀b,vp.ownBlock=some b→b<w.heap.size):=⟨lt_of_heap HX.out.1.hb,fun b e=>(HX.out.1.hp.lt b e).2⟩
      have HUL:Hid (ll.length≤900000):=by
       have h1:=HX.out.1.klen;rw[←HLL.out,keM_len] at h1;show _≤_;omega
      have EA:=rAddI_any true h g act cx vl vw vp (.slice ua un uc) P nw ll o (0,0) w5 HX.out.2.2 HH.hb HH.bb HH.hc HH.hok HH.hcl HH.hw HH.hnw HH.hp HH.hpl HD5.out.kn HUL.out (by have:=HX.out.1.act;unfold I64;omega);clear HH;obtain⟨y0,y1,y2,y3,y4,y5,y6,y7,y8,y9,y10,y11,y12,-⟩:=cLs HD5.out.o;have c0:w5.cell? ⟨jb,0,none⟩=some (.slice ua un uc):=cLo HD5.out.j 0;try dsimp only at EA
      go_wp2_with fail;go_fit EA;rintro e w6 hA;obtain⟨r1,r2,t,he,_⟩:=id hA;subst he;obtain⟨hfin,hrb6⟩:=act_fin (N:=N) (x:=.int .i64 r1) (y:=.int .i64 r2) hA HD5.out.b HHX.out.1 HHX.out.2 (Nat.le_of_lt HRB.out) HD5.out.r HIDS.out HX.out.2.1 (fun _=>by rw[HEL.out.1];have h1:=HX.out.1.nums;rw[HN.out] at h1;show(0:Int)<_;omega);have HFIN:Hid (post (.returned (.tuple #[.agg #[.int .i64 r1,.int .i64 r2],.int .i64 t])) ((w6.setCell ⟨rb,0,none⟩ (.int .i64 r1)).setCell ⟨rb,1,none⟩ (.int .i64 r2))):=by show post _ _;rw[HPO.out];exact hfin
      obtain⟨r0,rr1,-⟩:=cLs hrb6;have rf:=fRz hrb6 0;have rf1:=fRz hrb6 1;have k0:((w6.setCell ⟨rb,0,none⟩ (.int .i64 r1)).setCell ⟨rb,1,none⟩ (.int .i64 r2)).cell? ⟨rb,0,none⟩=some (.int .i64 r1):=by rw[World.cell?_setCell_other _ _ _ _ (by simp)];exact World.cell?_setCell_same _ _ _ r0
      have k1:((w6.setCell ⟨rb,0,none⟩ (.int .i64 r1)).setCell ⟨rb,1,none⟩ (.int .i64 r2)).cell? ⟨rb,1,none⟩=some (.int .i64 r2):=World.cell?_setCell_same _ _ _ (by rw[World.cell?_setCell_other _ _ _ _ (by simp)];exact rr1);clear hfin hrb6 hA EA y0 y1 y2 y3 y4 y5 y6 y7 y8 y9 y10 y11 y12 c0;go_wp2_with fail;generalize (w6.setCell ⟨rb,0,none⟩ (.int .i64 r1)).setCell ⟨rb,1,none⟩ (.int .i64 r2)=w9 at *;exact bodyPost_ret (v:=.tuple #[.agg #[.int .i64 r1,.int .i64 r2],.int .i64 t]) (by simp[results,Tryz.results23,go_sem,k0,k1]) rfl HFIN.out
    ·have dz:(bz !=0)=true:=by simpa using hz0
     clear hz0 HDX;have HE:=HBAD.out w5 bz HD5.out.b;have HE1:Hid (_):=HE;obtain⟨r0,r1,-⟩:=cLs HD5.out.r;have rf:=fRz HD5.out.r 0;have rf1:=fRz HD5.out.r 1;have k0:((w5.setCell ⟨rb,0,none⟩ (.int .i64 0)).setCell ⟨rb,1,none⟩ (.int .i64 0)).cell? ⟨rb,0,none⟩=some (.int .i64 0):=by rw[World.cell?_setCell_other _ _ _ _ (by simp)];exact World.cell?_setCell_same _ _ _ r0
     have k1:((w5.setCell ⟨rb,0,none⟩ (.int .i64 0)).setCell ⟨rb,1,none⟩ (.int .i64 0)).cell? ⟨rb,1,none⟩=some (.int .i64 0):=World.cell?_setCell_same _ _ _ (by rw[World.cell?_setCell_other _ _ _ _ (by simp)];exact r1);clear HE;go_wp2_with fail;generalize (w5.setCell ⟨rb,0,none⟩ (.int .i64 0)).setCell ⟨rb,1,none⟩ (.int .i64 0)=w9 at *;exact bodyPost_ret (v:=.tuple #[.agg #[.int .i64 0,.int .i64 0],.int .i64 bz]) (by simp[results,Tryz.results23,go_sem,k0,k1]) rfl HE1.out
   ·have dx:(x==0)=false:=by simpa using hx0
    have dx2:(x !=0)=true:=by simpa using hx0
    clear hx0 HDX;have HE:=HBAD.out w5 x HD5.out.b;have HE1:Hid (_):=HE;obtain⟨r0,r1,-⟩:=cLs HD5.out.r;have rf:=fRz HD5.out.r 0;have rf1:=fRz HD5.out.r 1;have k0:((w5.setCell ⟨rb,0,none⟩ (.int .i64 0)).setCell ⟨rb,1,none⟩ (.int .i64 0)).cell? ⟨rb,0,none⟩=some (.int .i64 0):=by rw[World.cell?_setCell_other _ _ _ _ (by simp)];exact World.cell?_setCell_same _ _ _ r0
    have k1:((w5.setCell ⟨rb,0,none⟩ (.int .i64 0)).setCell ⟨rb,1,none⟩ (.int .i64 0)).cell? ⟨rb,1,none⟩=some (.int .i64 0):=World.cell?_setCell_same _ _ _ (by rw[World.cell?_setCell_other _ _ _ _ (by simp)];exact r1);clear HE;go_wp2_with fail;generalize (w5.setCell ⟨rb,0,none⟩ (.int .i64 0)).setCell ⟨rb,1,none⟩ (.int .i64 0)=w9 at *;exact bodyPost_ret (v:=.tuple #[.agg #[.int .i64 0,.int .i64 0],.int .i64 x]) (by simp[results,Tryz.results23,go_sem,k0,k1]) rfl HE1.out
end Go.Proofs.YtamhlgflbacjgaaGreat
