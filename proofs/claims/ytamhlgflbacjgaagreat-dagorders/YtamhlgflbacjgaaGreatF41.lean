/-
  What is proved: as each theorem says.
  Conditions: as each theorem says.
-/
import Derived.Test.YtamhlgflbacjgaaGreatF00
import Derived.Test.YtamhlgflbacjgaaGreatF40
import Derived.Test.YtamhlgflbacjgaaGreatF33
import Derived.Test.YtamhlgflbacjgaaGreatF39
set_option maxRecDepth 100000
set_option maxHeartbeats 16000000
namespace Go.Proofs.YtamhlgflbacjgaaGreat
open Go.RowKit Go.Sort
theorem rDoF_any (h g:Nat) (act:Int) (cx:List CX) (f:CX→List OV) (vl vw vp:Value) (nw:Nat) (P:List OV) (o:OpM) (ix:Int) (w:World) (hix:I64 ix) (H:HIn h g act cx f vl vw vp nw P w) (hn:OpNums o) (hib:o.ins=false) (hel:o.elem=(0,0)):
 Calls Tryz.prog 23 #[.pointer (some ⟨h,0,none⟩),.agg (opA o false (.slice none 0 0)),.int .i64 ix] w fun e w'=>ActP h g act vp P (startN (cx.map (·.c))) w e w':=by
 have HEL:=hY2 hel hix;clear hel hix;have HX:=hY3 H hn hib;obtain⟨N,hN⟩:=gNz (startN (cx.map (·.c)));have HN:Hid (startN (cx.map (·.c))=N):=hN;obtain⟨post,hpost⟩:∃post:Ending→World→Prop,post=fun e w'=>ActP h g act vp P N w e w':=⟨_,rfl⟩
 have HPO:Hid (post=fun e w'=>ActP h g act vp P N w e w'):=hpost;rw[hN,←hpost];clear H hn hib hN hpost;go_enter Tryz.func23,Tryz.ntmps23
 go_upto_region 1 with fail
 obtain⟨q0,q1,q2⟩:=two_boxes w (.cells (opA o false (.slice none 0 0)) 62) (.cells #[.int .i64 0,.int .i64 0] 49);generalize (w.alloc (.cells (opA o false (.slice none 0 0)) 62)).alloc (.cells #[.int .i64 0,.int .i64 0] 49)=W0 at *;obtain⟨rb,hrb⟩:=gNz (w.heap.size+1);rw[hrb] at q1 ⊢;have HS0:=hY4 q0 q1 q2 ((by omega):w.heap.size<rb);have H0:=HX.out.1.below q2;have E1:=rJ_any h g act cx f vl vw vp P W0 H0.hb H0.bb H0.hc H0.hok H0.hf (by have:=H0.hcl;omega) H0.hpo H0.hpl;change Calls _ _ _ _ (fun e w'=>JP W0 cx f P (HKn act cx P) e w') at E1;clear q0 q1 q2 hrb H0;go_wp2_with fail;go_fit E1;rintro e w1 ⟨u,ll,rfl,hkn,hkp,hkm,hkl,b1⟩;obtain⟨ua,uc,hu⟩:=own_form hkn;obtain⟨un,hun⟩:=gNz (ll.length);rw[hun] at hu;subst hu;have HLL:Hid (keM ll=HKn act cx P):=hkm;have bx:=bAl w1 (.cells #[.slice ua un uc] 102);have HD2:Hid (DS w (.cells (opA o false (.slice none 0 0)) 62) rb w1.heap.size (.slice ua un uc) ll (w1.alloc (.cells #[.slice ua un uc] 102))):=⟨heap_below (heap_below HS0.out.1 b1 lRf) bx lRf,heap_below (heap_below HS0.out.2.1 b1 lRf) bx lRf,heap_alloc_new w1 _,(HS0.out.2.2.1.trans (b1.mono HS0.out.2.2.1.size)).trans (bx.mono (Nat.le_trans HS0.out.2.2.1.size b1.size)),own_mono (own_below hkn bx lRf) HS0.out.2.2.1.size,fun q hq=>by
  rcases hkp q hq with⟨x,hx,hq⟩ | hq
  ·obtain⟨_,_,_,_,_,h1,_⟩:=(HX.out.1.hf x hx).1;exact(h1 _ hq).1
  ·obtain⟨_,_,_,_,_,h1,_⟩:=HX.out.1.hpo;exact(h1 _ hq).1,hkl⟩
 have HRB:Hid (w.heap.size<rb):=HS0.out.2.2.2;have HBAD:Hid (∀(W:World) (t:Int),Below w.heap.size w W→post (.returned (.tuple #[.agg #[.int .i64 0,.int .i64 0],.int .i64 t])) ((W.setCell ⟨rb,0,none⟩ (.int .i64 0)).setCell ⟨rb,1,none⟩ (.int .i64 0))):=fun W t hS=>by
  rw[HPO.out];exact⟨_,_,_,rfl,⟨by unfold I64;omega,by unfold I64;omega⟩,Or.inl ((hS.setCell (Nat.le_of_lt HRB.out) _).setCell (Nat.le_of_lt HRB.out) _)⟩
 clear hkn hkp hkm hkl b1 hun bx HS0 E1;go_upto_region 2 with fail
 generalize w1.alloc (.cells #[.slice ua un uc] 102)=w2 at *;generalize w1.heap.size=jb at *;obtain⟨z1,hz1⟩:=gNz (okB o.val);obtain⟨z2,hz2⟩:=gNz (decide (o.val.k=5∨o.val.k=6));have E2:=rValue_any o.val w2;unfold V.val at E2;rw[hz1] at E2;obtain⟨-,-,-,-,-,-,-,y7,y8,y9,y10,y11,-⟩:=cLs HD2.out.o;clear hz1;go_wp2_with fail;go_fit E2;rintro e w3 ⟨rfl,b3⟩;have HD3:Hid (DS w (.cells (opA o false (.slice none 0 0)) 62) rb jb (.slice ua un uc) ll w3):=HD2.out.next b3;clear b3 E2 HD2 y7 y8 y9 y10 y11;have E3:=rObject_any o.val w3;unfold V.val at E3;rw[hz2] at E3;obtain⟨-,-,-,-,-,-,-,y7,y8,y9,y10,y11,-⟩:=cLs HD3.out.o;clear hz2;go_wp2_with fail;go_fit E3;rintro e w4 ⟨rfl,b4⟩;have HD4:Hid (DS w (.cells (opA o false (.slice none 0 0)) 62) rb jb (.slice ua un uc) ll w4):=HD3.out.next b4;clear b4 E3 HD3 y7 y8 y9 y10 y11;obtain⟨y0,-,-,-,-,-,-,y7,-⟩:=cLs HD4.out.o;go_upto_region 5 with fail
 go_cut [49] from 23 to 48 (fun b wx=>∃bb,b=.bool bb∧wx=w4)
 case first=>
  by_cases hk1:o.kind=1
  ·rw[hk1] at y0;clear hk1;cases z1 with
   | false=>
    go_wp2;go_meet
    case rel=>exact⟨_,rfl,rfl⟩
   | true=>
    cases z2 with
    | true=>
     go_wp2;go_meet
     case rel=>exact⟨_,rfl,rfl⟩
    | false=>
     go_wp2;go_meet
     case rel=>exact⟨_,rfl,rfl⟩
  ·have dk1:(o.kind==1)=false:=by simpa using hk1
   clear hk1;by_cases hk2:o.kind=2
   ·rw[hk2] at y0;clear hk2 dk1;by_cases h5:o.val.k=5
    ·rw[h5] at y7;clear h5;go_wp2;go_meet
     case rel=>exact⟨_,rfl,rfl⟩
    ·have d5:(o.val.k !=5)=true:=by simpa using h5
     clear h5;go_wp2;go_meet
     case rel=>exact⟨_,rfl,rfl⟩
   ·have dk2:(o.kind==2)=false:=by simpa using hk2
    clear hk2;go_wp2;go_meet
    case rel=>exact⟨_,rfl,rfl⟩
 case rest=>
  obtain⟨bb,rfl,hwc⟩:=hcut;subst hwc;clear y0 y7;obtain⟨wq,hwq⟩:∃x:World,x=wc:=⟨wc,rfl⟩
  subst hwq;go_upto_if 49 with fail
  go_cut [11] from 49 to 49 (fun b wx=>∃bz:Int,b=.int .i64 bz∧wx=wq)
  case first=>
   cases bb with
   | true=>
    go_wp2;go_meet
    case rel=>exact⟨_,rfl,rfl⟩
   | false=>
    go_wp2;go_meet
    case rel=>exact⟨_,rfl,rfl⟩
  case rest=>
   obtain⟨bz,rfl,hwc⟩:=hcut;subst hwc;have HKO:Hid (KOk 1000080 (keM ll)∧ll.length≤900000):=by
    have h1:=HX.out.1.klen;have h2:=HX.out.1.kOk;rw[←HLL.out] at h1 h2;rw[keM_len] at h1;exact⟨h2,by omega⟩
   have E5:=rIndex_any 1000080 1000080 (.slice ua un uc) ll o.obj ix 0 wc HD4.out.kn HKO.out.1 HKO.out.2 (by omega) (by omega);obtain⟨-,y1,y2,-,-,-,y6,-⟩:=cLs HD4.out.o;have c0:wc.cell? ⟨jb,0,none⟩=some (.slice ua un uc):=cLo HD4.out.j 0;clear HKO;go_wp2_with fail;go_fit E5;rintro e w5 ⟨u5,x,rfl,b5,hidx⟩;have HD5:Hid (DS w (.cells (opA o false (.slice none 0 0)) 62) rb jb (.slice ua un uc) ll w5):=HD4.out.next b5;have HDX:Hid (x=0→∃Q,OwnI wc.heap.size u5 Q w5∧0≤ix∧ix<(Q.length:Int)+0∧Q.length≤900000∧∀y∈Q,y∈(keM ll).map (·.2)):=hidx;have HRF:=hY2 (lt_of_heap HD4.out.r) (lt_of_heap HD4.out.o);clear b5 hidx E5 HD4 y1 y2 y6 c0;by_cases hx0:x=0
   ·subst hx0;by_cases hz0:bz=0
    ·subst hz0;obtain⟨Q,hQr,hQ0,hQ1,hQ2,hQ3⟩:=HDX.out rfl;obtain⟨a5,c5,e5⟩:=own_form hQr;obtain⟨qn,hqn⟩:=gNz (Q.length);rw[hqn] at e5;subst e5;have HQ:=hY6 hQr hQ0 hQ1 hQ2 hQ3 hqn;clear hQr hQ0 hQ1 hQ2 hQ3 hqn HDX;obtain⟨-,-,-,-,-,-,y6,-⟩:=cLs HD5.out.o;obtain⟨mm,hmm⟩:∃m:Nat,ix=(m:Int):=⟨ix.toNat,by have:=HQ.out.2.1;omega⟩
     subst hmm;have hmQ:mm<Q.length:=by have:=HQ.out.2.2.1;omega
     have hmn:(mm:Int)<qn:=by have:=HQ.out.2.2.2.2.2;omega
     have hm0:(0:Int)≤mm:=by omega
     obtain⟨y,hy⟩:=gNz (Q[mm]:Pr);obtain⟨b2,rfl,hb2,j0,j1⟩:=own_id HQ.out.1 hmQ hy;have HYI:Hid ((1≤y.1∧y.1<N+(P.length:Int))∧1≤y.2∧y.2≤99):=by
      have h1:=HQ.out.2.2.2.2.1 Q[mm] (List.getElem_mem hmQ);rw[hy,HLL.out] at h1;have h2:=HX.out.1.ids y h1;rw[HN.out] at h2;exact h2
     have hbx:=HD5.out.o;obtain⟨-,-,-,-,y4,y5,-⟩:=cLs hbx;have yf:=fRz hbx 4;have yf5:=fRz hbx 5;have HD6:Hid (DS w (.cells #[.int .i64 o.kind,.int .i64 o.obj.1,.int .i64 o.obj.2,.string o.key,.int .i64 y.1,.int .i64 y.2,.bool false,.int .i64 o.val.k,.int .i64 o.val.n,.string o.val.t,.int .i64 o.val.o,.int .i64 o.val.a,.slice none 0 0] 62) rb jb (.slice ua un uc) ll ((w5.setCell ⟨w.heap.size,4,none⟩ (.int .i64 y.1)).setCell ⟨w.heap.size,5,none⟩ (.int .i64 y.2))):=by
      have hr:=HD5.out.r;have hj:=HD5.out.j;have n1:rb≠w.heap.size:=cells_apart hr hbx (by decide);have n2:jb≠w.heap.size:=cells_apart hj hbx (by decide);have hB:Below w.heap.size w ((w5.setCell ⟨w.heap.size,4,none⟩ (.int .i64 y.1)).setCell ⟨w.heap.size,5,none⟩ (.int .i64 y.2)):=(HD5.out.b.setCell lRf _).setCell lRf _;have hb4:(w5.setCell ⟨w.heap.size,4,none⟩ (.int .i64 y.1)).heap[w.heap.size]?=some (.cells ((opA o false (.slice none 0 0)).setIfInBounds 4 (.int .i64 y.1)) 62):=set_at hbx 4 _;refine⟨?_,heap_set_other (heap_set_other hr n1) n1,heap_set_other (heap_set_other hj n2) n2,hB,own_set_other (own_set_other HD5.out.row hbx (by decide)) hb4 (by decide),HD5.out.pr,HD5.out.few⟩;rw[set_at (set_at hbx 4 _) 5 _];rfl
     go_upto_region 20 with fail
     generalize (w5.setCell ⟨w.heap.size,4,none⟩ (.int .i64 y.1)).setCell ⟨w.heap.size,5,none⟩ (.int .i64 y.2)=w7 at *;clear y4 y5 y6 yf yf5 hbx j0 j1 hb2 hy hmQ hmn hm0;have HYN:Hid (OpNums {o with elem:=y}):=by
      have h1:=HX.out.2.1;have h2:=HYI.out;have h3:=HX.out.1.nums;have h4:=HX.out.1.hpl;rw[HN.out] at h3;refine⟨h1.1,h1.2.1,⟨?_,?_⟩,h1.2.2.2⟩
      ·unfold I64;dsimp only;omega
      ·unfold I64;dsimp only;omega
     have HH:=HX.out.1.below HD6.out.b;have HIDS:Hid (∀q∈(keM ll).map (·.2),I64 q.1∧I64 q.2):=fun q hq=>by
      rw[HLL.out] at hq;have h1:=HX.out.1.ids q hq;have h2:=HX.out.1.nums;have h3:=HX.out.1.hpl;unfold I64;omega
     have HHX:Hid (h<w.heap.size∧∀b,vp.ownBlock=some b→b<w.heap.size):=⟨lt_of_heap HX.out.1.hb,fun b e=>(HX.out.1.hp.lt b e).2⟩
     have HUL:Hid (ll.length≤900000):=by
      have h1:=HX.out.1.klen;rw[←HLL.out,keM_len] at h1;show _≤_;omega
     have EA:=rAddI_any false h g act cx vl vw vp (.slice ua un uc) P nw ll {o with elem:=y} y w7 HX.out.2.2 HH.hb HH.bb HH.hc HH.hok HH.hcl HH.hw HH.hnw HH.hp HH.hpl HD6.out.kn HUL.out (by have:=HX.out.1.act;unfold I64;omega);clear HH;obtain⟨y0,y1,y2,y3,y4,y5,y6,y7,y8,y9,y10,y11,y12,-⟩:=cLs HD6.out.o;have c0:w7.cell? ⟨jb,0,none⟩=some (.slice ua un uc):=cLo HD6.out.j 0;try dsimp only at EA
     go_wp2_with fail;go_fit EA;rintro e w6 hA;obtain⟨r1,r2,t,he,_⟩:=id hA;subst he;obtain⟨hfin,hrb6⟩:=act_fin (N:=N) (x:=.int .i64 r1) (y:=.int .i64 r2) hA HD6.out.b HHX.out.1 HHX.out.2 (Nat.le_of_lt HRB.out) HD6.out.r HIDS.out HYN.out (fun e=>by rw[show({o with elem:=y}:OpM).ins=o.ins from rfl,HX.out.2.2] at e;cases e);have HFIN:Hid (post (.returned (.tuple #[.agg #[.int .i64 r1,.int .i64 r2],.int .i64 t])) ((w6.setCell ⟨rb,0,none⟩ (.int .i64 r1)).setCell ⟨rb,1,none⟩ (.int .i64 r2))):=by show post _ _;rw[HPO.out];exact hfin
     obtain⟨r0,rr1,-⟩:=cLs hrb6;have rf:=fRz hrb6 0;have rf1:=fRz hrb6 1;have k0:((w6.setCell ⟨rb,0,none⟩ (.int .i64 r1)).setCell ⟨rb,1,none⟩ (.int .i64 r2)).cell? ⟨rb,0,none⟩=some (.int .i64 r1):=by rw[World.cell?_setCell_other _ _ _ _ (by simp)];exact World.cell?_setCell_same _ _ _ r0
     have k1:((w6.setCell ⟨rb,0,none⟩ (.int .i64 r1)).setCell ⟨rb,1,none⟩ (.int .i64 r2)).cell? ⟨rb,1,none⟩=some (.int .i64 r2):=World.cell?_setCell_same _ _ _ (by rw[World.cell?_setCell_other _ _ _ _ (by simp)];exact rr1);clear hfin hrb6 hA EA y0 y1 y2 y3 y4 y5 y6 y7 y8 y9 y10 y11 y12 c0;go_wp2_with fail;generalize (w6.setCell ⟨rb,0,none⟩ (.int .i64 r1)).setCell ⟨rb,1,none⟩ (.int .i64 r2)=w9 at *;exact bodyPost_ret (v:=.tuple #[.agg #[.int .i64 r1,.int .i64 r2],.int .i64 t]) (by simp[results,Tryz.results23,go_sem,k0,k1]) rfl HFIN.out
    ·have dz:(bz !=0)=true:=by simpa using hz0
     clear hz0 HDX;have HE:=HBAD.out w5 bz HD5.out.b;have HE1:Hid (_):=HE;obtain⟨r0,r1,-⟩:=cLs HD5.out.r;have rf:=fRz HD5.out.r 0;have rf1:=fRz HD5.out.r 1;have k0:((w5.setCell ⟨rb,0,none⟩ (.int .i64 0)).setCell ⟨rb,1,none⟩ (.int .i64 0)).cell? ⟨rb,0,none⟩=some (.int .i64 0):=by rw[World.cell?_setCell_other _ _ _ _ (by simp)];exact World.cell?_setCell_same _ _ _ r0
     have k1:((w5.setCell ⟨rb,0,none⟩ (.int .i64 0)).setCell ⟨rb,1,none⟩ (.int .i64 0)).cell? ⟨rb,1,none⟩=some (.int .i64 0):=World.cell?_setCell_same _ _ _ (by rw[World.cell?_setCell_other _ _ _ _ (by simp)];exact r1);clear HE;go_wp2_with fail;generalize (w5.setCell ⟨rb,0,none⟩ (.int .i64 0)).setCell ⟨rb,1,none⟩ (.int .i64 0)=w9 at *;exact bodyPost_ret (v:=.tuple #[.agg #[.int .i64 0,.int .i64 0],.int .i64 bz]) (by simp[results,Tryz.results23,go_sem,k0,k1]) rfl HE1.out
   ·have dx:(x==0)=false:=by simpa using hx0
    have dx2:(x !=0)=true:=by simpa using hx0
    clear hx0 HDX;have HE:=HBAD.out w5 x HD5.out.b;have HE1:Hid (_):=HE;obtain⟨r0,r1,-⟩:=cLs HD5.out.r;have rf:=fRz HD5.out.r 0;have rf1:=fRz HD5.out.r 1;have k0:((w5.setCell ⟨rb,0,none⟩ (.int .i64 0)).setCell ⟨rb,1,none⟩ (.int .i64 0)).cell? ⟨rb,0,none⟩=some (.int .i64 0):=by rw[World.cell?_setCell_other _ _ _ _ (by simp)];exact World.cell?_setCell_same _ _ _ r0
    have k1:((w5.setCell ⟨rb,0,none⟩ (.int .i64 0)).setCell ⟨rb,1,none⟩ (.int .i64 0)).cell? ⟨rb,1,none⟩=some (.int .i64 0):=World.cell?_setCell_same _ _ _ (by rw[World.cell?_setCell_other _ _ _ _ (by simp)];exact r1);clear HE;go_wp2_with fail;generalize (w5.setCell ⟨rb,0,none⟩ (.int .i64 0)).setCell ⟨rb,1,none⟩ (.int .i64 0)=w9 at *;exact bodyPost_ret (v:=.tuple #[.agg #[.int .i64 0,.int .i64 0],.int .i64 x]) (by simp[results,Tryz.results23,go_sem,k0,k1]) rfl HE1.out
def IsNums (w:World) (v:Value) (l:List Int):Prop:=
 ∃a cap,v=.slice a l.length cap∧l.length≤cap∧(∀z∈l,I64 z)∧(l≠[]→∃b off,a=some ⟨b,off,none⟩∧b<w.heap.size∧∀i (h:i<l.length),w.cell? ⟨b,off+i,none⟩=some (.int .i64 l[i]))
theorem rAt2_any (v:Value) (l:List Int) (i:Nat) (w:World) (hv:IsNums w v l) (hi:i<100):
 Calls Tryz.prog 19 #[v,.int .i64 (i:Int)] w fun e w'=>(∃z,e=.returned (.int .i64 z)∧I64 z)∧Below w.heap.size w w':=by
 obtain⟨a,cap,rfl,h1,h2,h3⟩:=hv;obtain⟨n,hn⟩:=gNz (l.length);by_cases hlt:i<n
 ·have hil:i<l.length:=by omega
  obtain⟨b,off,rfl,_,h5⟩:=h3 (fun e=>by rw[e] at hil;simp at hil);have x0:=h5 i hil;obtain⟨z,hz⟩:=gNz (l[i]);have HZ:Hid (I64 z):=by rw[←hz];exact h2 _ (List.getElem_mem hil)
  rw[hz] at x0;rw[hn] at *;have g1:(i:Int)<n:=by omega
  have g2:(0:Int)≤i:=by omega
  clear h1 h2 h3 h5 hlt hil hz hn hi;go_enter Tryz.func19,Tryz.ntmps19
  go_wp2;go_ret;exact⟨⟨z,rfl,HZ.out⟩,Below.refl _ _⟩
 ·rw[hn] at *;have g1:¬(i:Int)<n:=by omega
  clear h1 h2 h3 hlt hn hi;go_enter Tryz.func19,Tryz.ntmps19
  go_wp2;go_ret;exact⟨⟨0,rfl,by unfold I64;omega⟩,Below.refl _ _⟩
theorem rKey2_any (n:Int) (w:World):Calls Tryz.prog 21 #[.int .i64 n] w fun e w'=>(∃s,e=.returned (.string s))∧Below w.heap.size w w':=by
 go_enter Tryz.func21,Tryz.ntmps21
 go_wp2;all_goals (go_ret;exact⟨⟨_,rfl⟩,Below.refl _ _⟩)
theorem rNew_any (act:Int) (w:World):Calls Tryz.prog 18 #[.int .i64 act] w fun e w'=>e=.returned (.pointer (some ⟨w.heap.size+1,0,none⟩))∧w'.heap[w.heap.size]?=some (.cells #[.slice none 0 0,.slice none 0 0] 73)∧w'.heap[w.heap.size+1]?=some (.cells #[.int .i64 act,.pointer (some ⟨w.heap.size,0,none⟩),.slice none 0 0] 68)∧Below w.heap.size w w':=by
 obtain⟨q0,q1,q2⟩:=two_boxes w (.cells #[.slice none 0 0,.slice none 0 0] 73) (.cells #[.int .i64 act,.pointer (some ⟨w.heap.size,0,none⟩),.slice none 0 0] 68);have HQ:=hY3 q0 q1 q2;clear q0 q1 q2;go_enter Tryz.func18,Tryz.ntmps18
 go_wp2;go_ret;exact⟨rfl,HQ.out⟩
theorem pick_range (k n:Int) (hn:0<n):0≤(k.tmod n+n).tmod n∧(k.tmod n+n).tmod n<n:=by
 have h1: -n<k.tmod n:=by
  rcases Int.le_total 0 k with h | h
  ·have:=Int.tmod_nonneg n h;omega
  ·have h2:=Int.tmod_lt_of_pos (-k) hn;rw[Int.neg_tmod] at h2;omega
 have h2:0≤k.tmod n+n:=by omega
 exact⟨Int.tmod_nonneg n h2,Int.tmod_lt_of_pos _ hn⟩
theorem rPick_any (k n:Int) (w:World) (hn:0<n) (hn2:n≤1000000):Calls Tryz.prog 9 #[.int .i64 k,.int .i64 n] w fun e w'=>(∃z,e=.returned (.int .i64 z)∧0≤z∧z<n)∧Below w.heap.size w w':=by
 have h0:(n==0)=false:=by simp;omega
 have h1:=pick_range k n hn;have hr: -n<k.tmod n∧k.tmod n<n:=by
  rcases Int.le_total 0 k with h | h
  ·have:=Int.tmod_nonneg n h;have:=Int.tmod_lt_of_pos k hn;omega
  ·have h2:=Int.tmod_lt_of_pos (-k) hn;have h3:=Int.tmod_nonneg n (show 0≤-k by omega);rw[Int.neg_tmod] at h2 h3;omega
 have hw:wrap64 (k.tmod n+n)=k.tmod n+n:=by unfold wrap64;omega
 have H1:Hid (0≤(k.tmod n+n).tmod n∧(k.tmod n+n).tmod n<n):=h1;have HW:Hid (wrap64 (k.tmod n+n)=k.tmod n+n):=hw;clear h1 hr hw;go_enter Tryz.func9,Tryz.ntmps9
 go_wp2_with fail;exact bodyPost_ret (v:=.int .i64 ((wrap64 (k.tmod n+n)).tmod n)) (by simp[results,Tryz.results9,go_sem]) rfl ⟨⟨_,rfl,by rw[HW.out];exact H1.out.1,by rw[HW.out];exact H1.out.2⟩,Below.refl _ _⟩
theorem rVal2_any (n:Int) (w:World) (hn:I64 n):Calls Tryz.prog 22 #[.int .i64 n] w fun e w'=>(∃v:V,e=.returned v.val∧I64 v.k∧I64 v.n∧I64 v.o∧I64 v.a)∧Below w.heap.size w w':=by
 have HN:Hid (I64 n):=hn;have C:∀(v0 v1 v2 v3 v4:Value) (j:Nat),(w.alloc (.cells #[v0,v1,v2,v3,v4] 59)).cell? ⟨w.heap.size,j,none⟩=(#[v0,v1,v2,v3,v4]:Array Value)[j]?:=fun v0 v1 v2 v3 v4 j=>by
  have e:=heap_alloc_new w (.cells #[v0,v1,v2,v3,v4] 59);unfold World.cell?;dsimp only;rw[e];rfl
 have B:∀o,Below w.heap.size w (w.alloc o):=fun o=>bAl _ o;have HC:Hid (∀(v0 v1 v2 v3 v4:Value) (j:Nat),(w.alloc (.cells #[v0,v1,v2,v3,v4] 59)).cell? ⟨w.heap.size,j,none⟩=(#[v0,v1,v2,v3,v4]:Array Value)[j]?):=C;have z0:∀z:Int,0≤z→z<9223372036854775808→I64 z:=fun z h1 h2=>by unfold I64;omega
 have HB:Hid (∀o,Below w.heap.size w (w.alloc o)):=B;have HZ:Hid (∀z:Int,0≤z→z<9223372036854775808→I64 z):=z0;clear hn C B z0;go_enter Tryz.func22,Tryz.ntmps22
 go_wp2
 ·exact bodyPost_ret (v:=V.val ⟨0,0,⟨#[]⟩,0,0⟩) (by simp[results,Tryz.results22,go_sem,HC.out,V.val]) rfl ⟨⟨⟨0,0,⟨#[]⟩,0,0⟩,rfl,HZ.out 0 (by decide) (by decide),HZ.out 0 (by decide) (by decide),HZ.out 0 (by decide) (by decide),HZ.out 0 (by decide) (by decide)⟩,HB.out _⟩
 ·exact bodyPost_ret (v:=V.val ⟨1,1,⟨#[]⟩,0,0⟩) (by simp[results,Tryz.results22,go_sem,HC.out,V.val]) rfl ⟨⟨⟨1,1,⟨#[]⟩,0,0⟩,rfl,HZ.out 1 (by decide) (by decide),HZ.out 1 (by decide) (by decide),HZ.out 0 (by decide) (by decide),HZ.out 0 (by decide) (by decide)⟩,HB.out _⟩
 ·exact bodyPost_ret (v:=V.val ⟨3,0,⟨#[116,101,10,120,116]⟩,0,0⟩) (by simp[results,Tryz.results22,go_sem,HC.out,V.val]) rfl ⟨⟨⟨3,0,⟨#[116,101,10,120,116]⟩,0,0⟩,rfl,HZ.out 3 (by decide) (by decide),HZ.out 0 (by decide) (by decide),HZ.out 0 (by decide) (by decide),HZ.out 0 (by decide) (by decide)⟩,HB.out _⟩
 ·exact bodyPost_ret (v:=V.val ⟨4,10,⟨#[]⟩,0,0⟩) (by simp[results,Tryz.results22,go_sem,HC.out,V.val]) rfl ⟨⟨⟨4,10,⟨#[]⟩,0,0⟩,rfl,HZ.out 4 (by decide) (by decide),HZ.out 10 (by decide) (by decide),HZ.out 0 (by decide) (by decide),HZ.out 0 (by decide) (by decide)⟩,HB.out _⟩
 ·exact bodyPost_ret (v:=V.val ⟨4,9223372036854775807,⟨#[]⟩,0,0⟩) (by simp[results,Tryz.results22,go_sem,HC.out,V.val]) rfl ⟨⟨⟨4,9223372036854775807,⟨#[]⟩,0,0⟩,rfl,HZ.out 4 (by decide) (by decide),HZ.out 9223372036854775807 (by decide) (by decide),HZ.out 0 (by decide) (by decide),HZ.out 0 (by decide) (by decide)⟩,HB.out _⟩
 ·exact bodyPost_ret (v:=V.val ⟨5,0,⟨#[]⟩,0,0⟩) (by simp[results,Tryz.results22,go_sem,HC.out,V.val]) rfl ⟨⟨⟨5,0,⟨#[]⟩,0,0⟩,rfl,HZ.out 5 (by decide) (by decide),HZ.out 0 (by decide) (by decide),HZ.out 0 (by decide) (by decide),HZ.out 0 (by decide) (by decide)⟩,HB.out _⟩
 ·exact bodyPost_ret (v:=V.val ⟨9,0,⟨#[]⟩,0,0⟩) (by simp[results,Tryz.results22,go_sem,HC.out,V.val]) rfl ⟨⟨⟨9,0,⟨#[]⟩,0,0⟩,rfl,HZ.out 9 (by decide) (by decide),HZ.out 0 (by decide) (by decide),HZ.out 0 (by decide) (by decide),HZ.out 0 (by decide) (by decide)⟩,HB.out _⟩
 ·exact bodyPost_ret (v:=V.val ⟨2,n,⟨#[]⟩,0,0⟩) (by simp[results,Tryz.results22,go_sem,HC.out,V.val]) rfl ⟨⟨⟨2,n,⟨#[]⟩,0,0⟩,rfl,HZ.out 2 (by decide) (by decide),HN.out,HZ.out 0 (by decide) (by decide),HZ.out 0 (by decide) (by decide)⟩,HB.out _⟩
def OpStep (lo:Lo) (HS:List HR) (i:Nat) (x:HR) (w:World) (e:Ending) (w':World):Prop:=∃r1 r2 t,e=.returned (.tuple #[.agg #[.int .i64 r1,.int .i64 r2],.int .i64 t])∧(I64 r1∧I64 r2)∧StepP lo HS i x w w'
section
variable {lo : Lo} {HS : List HR} {i : Nat} {x : HR} {w w' : World}
theorem hDoKey (H:Hands lo HS w) (hi:HS[i]?=some x) (ho:HOk x) (o:OpM) (hn:OpNums o) (hib:o.ins=false):
 Calls Tryz.prog 20 #[.pointer (some ⟨x.h,0,none⟩),.agg (opA o false (.slice none 0 0))] w fun e w'=>OpStep lo HS i x w e w':=by
 obtain⟨f,nw,HN⟩:=H.inn (List.mem_of_getElem? hi) ho;refine(rDoKey_any x.h x.g x.act _ f x.vl x.vw x.vp nw x.P o w HN hn hib).mono fun e w' A=>?_;rw[map_toCX] at A;exact act_step H hi ho A
theorem hDoT (H:Hands lo HS w) (hi:HS[i]?=some x) (ho:HOk x) (o:OpM) (ix:Int) (hix:I64 ix) (hn:OpNums o) (hib:o.ins=true) (hel:o.elem=(0,0)):
 Calls Tryz.prog 23 #[.pointer (some ⟨x.h,0,none⟩),.agg (opA o true (.slice none 0 0)),.int .i64 ix] w fun e w'=>OpStep lo HS i x w e w':=by
 obtain⟨f,nw,HN⟩:=H.inn (List.mem_of_getElem? hi) ho;refine(rDoT_any x.h x.g x.act _ f x.vl x.vw x.vp nw x.P o ix w hix HN hn hib hel).mono fun e w' A=>?_;rw[map_toCX] at A;exact act_step H hi ho A
theorem hDoF (H:Hands lo HS w) (hi:HS[i]?=some x) (ho:HOk x) (o:OpM) (ix:Int) (hix:I64 ix) (hn:OpNums o) (hib:o.ins=false) (hel:o.elem=(0,0)):
 Calls Tryz.prog 23 #[.pointer (some ⟨x.h,0,none⟩),.agg (opA o false (.slice none 0 0)),.int .i64 ix] w fun e w'=>OpStep lo HS i x w e w':=by
 obtain⟨f,nw,HN⟩:=H.inn (List.mem_of_getElem? hi) ho;refine(rDoF_any x.h x.g x.act _ f x.vl x.vw x.vp nw x.P o ix w hix HN hn hib hel).mono fun e w' A=>?_;rw[map_toCX] at A;exact act_step H hi ho A
theorem live_type (h:HandAt x w) {b:Nat} (hb:x.live b):∃cur t,w.heap[b]?=some (.cells cur t)∧(t=68∨t=73∨t=33∨t=62):=by
 rcases hb with rfl | rfl | e | e | e
 ·exact⟨_,_,h.box,Or.inl rfl⟩
 ·exact⟨_,_,h.bbox,Or.inr (Or.inl rfl)⟩
 ·obtain⟨c,hc⟩:=own_type h.rowL e;exact⟨_,_,hc,Or.inr (Or.inr (Or.inl rfl))⟩
 ·obtain⟨c,hc⟩:=own_type h.rowW e;exact⟨_,_,hc,Or.inr (Or.inr (Or.inl rfl))⟩
 ·obtain⟨c,hc⟩:=own_type h.rowP e;exact⟨_,_,hc,Or.inr (Or.inr (Or.inr rfl))⟩
theorem step_keep (H:Hands lo HS w) (hi:HS[i]?=some x) (K:KpS (fun b=>x.live b∨w.heap.size≤b) w w') {b:Nat} {cur:Array Value} {t:TypeId} (hb:w.heap[b]?=some (.cells cur t)) (ht:t≠68∧t≠73∧t≠33∧t≠62):w'.heap[b]?=some (.cells cur t):=by
 refine(K.block b (lt_of_heap hb) (fun hS=>?_)).trans hb;rcases hS with hS | hS
 ·obtain⟨c,t',h1,h2⟩:=live_type (H.hand x (List.mem_of_getElem? hi)) hS;rw[hb] at h1;injection h1 with h1
  injection h1 with _ h3 _
  subst h3;rcases h2 with h2 | h2 | h2 | h2
  ·exact ht.1 h2
  ·exact ht.2.1 h2
  ·exact ht.2.2.1 h2
  ·exact ht.2.2.2 h2
 ·have:=lt_of_heap hb;omega
theorem hRoll (H:Hands lo HS w) (hi:HS[i]?=some x) (ho:HOk x):StepP lo HS i x w (w.setCell ⟨x.h,2,none⟩ (.slice none 0 0)):=by
 have hx:=List.mem_of_getElem? hi;have X:=H.hand x hx;have K:KpS (fun b=>x.live b∨w.heap.size≤b) w (w.setCell ⟨x.h,2,none⟩ (.slice none 0 0)):=KpS.set _ (Or.inl (Or.inl rfl));have same:∀b,b≠x.h→(w.setCell ⟨x.h,2,none⟩ (.slice none 0 0)).heap[b]?=w.heap[b]?:=fun b hb=>Below.heap_setCell _ _ _ _ (by simpa using hb);have hl:∀b,(HR.live ⟨x.h,x.g,x.act,x.EL,x.EW,x.vl,x.vw,.slice none 0 0,[]⟩ b)→x.live b∨w.heap.size≤b:=fun b hb=>by
  rcases hb with hb | hb | hb | hb | hb
  ·exact Or.inl (Or.inl hb)
  ·exact Or.inl (Or.inr (Or.inl hb))
  ·exact Or.inl (Or.inr (Or.inr (Or.inl hb)))
  ·exact Or.inl (Or.inr (Or.inr (Or.inr (Or.inl hb))))
  ·cases hb
 obtain⟨o1,_⟩:=H.old hi K hl;refine⟨⟨x.h,x.g,x.act,x.EL,x.EW,x.vl,x.vw,.slice none 0 0,[]⟩,H.step hi K ⟨?_,?_,?_,?_,World.ownsRow_nil _ _ _ _,X.ne,X.ri,X.act,Nat.zero_le _⟩ hl (o1 x hx) (fun q hq=>by cases hq),⟨rfl,rfl,rfl⟩,⟨ho.fin,fun k hk=>by simp at hk⟩,K⟩
 ·rw[set_at X.box 2 _];rfl
 ·rw[same _ (cells_apart X.bbox X.box (by decide))];exact X.bbox
 ·exact own_stay X.rowL fun b hb=>same b (fun e=>own_ne_box X.rowL X.box (by decide) (e▸hb))
 ·exact own_stay X.rowW fun b hb=>same b (fun e=>own_ne_box X.rowW X.box (by decide) (e▸hb))
theorem Hands.more (H:Hands lo HS w) (act:Int) (ha:1≤act∧act≤99) (h1:w'.heap[w.heap.size]?=some (.cells #[.slice none 0 0,.slice none 0 0] 73)) (h2:w'.heap[w.heap.size+1]?=some (.cells #[.int .i64 act,.pointer (some ⟨w.heap.size,0,none⟩),.slice none 0 0] 68)) (b:Below w.heap.size w w'):
 Hands lo (HS++[⟨w.heap.size+1,w.heap.size,act,[],[],.slice none 0 0,.slice none 0 0,.slice none 0 0,[]⟩]) w':=by
 have hz:=lt_of_heap h2;have nl:∀k,(HR.live ⟨w.heap.size+1,w.heap.size,act,[],[],.slice none 0 0,.slice none 0 0,.slice none 0 0,[]⟩ k)→w.heap.size≤k:=fun k hk=>by
  rcases hk with hk | hk | hk | hk | hk
  ·have:k=w.heap.size+1:=hk;omega
  ·have:k=w.heap.size:=hk;omega
  ·cases hk
  ·cases hk
  ·cases hk
 have mv:∀k,k<w'.heap.size→LV lo (HS++[⟨w.heap.size+1,w.heap.size,act,[],[],.slice none 0 0,.slice none 0 0,.slice none 0 0,[]⟩]) w' k→LV lo HS w k:=fun k _ h=>by
  rcases h with⟨y,hy,hk⟩ | h
  ·rcases List.mem_append.1 hy with hy | hy
   ·exact Or.inl ⟨y,hy,hk⟩
   ·rw[List.mem_singleton.1 hy] at hk;exact Or.inr (Or.inl (nl k hk))
  ·exact Or.inr (h.imp (fun h=>Nat.le_trans b.size h) id)
 refine⟨fun y hy=>?_,fun y hy k hk=>?_,fun y hy k hk hd=>?_,fun k h=>Nat.lt_of_lt_of_le (H.dl k h) b.size,?_,fun y hy p hp=>?_,fun y hy q hq=>?_,Nat.le_trans H.lo b.size⟩
 ·rcases List.mem_append.1 hy with hy | hy
  ·exact(H.hand y hy).below b
  ·rw[List.mem_singleton.1 hy];exact⟨h2,h1,World.ownsRow_nil _ _ _ _,World.ownsRow_nil _ _ _ _,World.ownsRow_nil _ _ _ _,(fun _ e=>by cases e),RI.nil,ha,Nat.zero_le _⟩
 ·rcases List.mem_append.1 hy with hy | hy
  ·exact H.low y hy k hk
  ·rw[List.mem_singleton.1 hy] at hk;exact Nat.le_trans H.lo (nl k hk)
 ·rcases List.mem_append.1 hy with hy | hy
  ·exact H.out y hy k hk hd
  ·rw[List.mem_singleton.1 hy] at hk;have:=nl k hk;have:=H.dl k hd;omega
 ·refine List.pairwise_append.2 ⟨H.dis,by simp,fun y hy z hz' k hk hk2=>?_⟩;rw[List.mem_singleton.1 hz'] at hk2;have:=nl k hk2;have:=(H.hand y hy).lt hk;omega
 ·rcases List.mem_append.1 hy with hy | hy
  ·exact((H.fz y hy p hp).below b).mono mv
  ·rw[List.mem_singleton.1 hy] at hp;cases hp
 ·rcases List.mem_append.1 hy with hy | hy
  ·exact((H.fq y hy q hq).kp (KpS.of b)).mono mv
  ·rw[List.mem_singleton.1 hy] at hq;cases hq
theorem hok_new (h g:Nat) (act:Int):HOk ⟨h,g,act,[],[],.slice none 0 0,.slice none 0 0,.slice none 0 0,[]⟩:=⟨FInv.nil,fun k hk=>by simp at hk⟩
end
end Go.Proofs.YtamhlgflbacjgaaGreat
