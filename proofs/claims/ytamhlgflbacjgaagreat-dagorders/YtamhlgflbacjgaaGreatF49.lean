/-
  What is proved: as each theorem says.
  Conditions: as each theorem says.
-/
import Derived.Test.YtamhlgflbacjgaaGreatF00
import Derived.Test.YtamhlgflbacjgaaGreatF48
import Derived.Test.YtamhlgflbacjgaaGreatF15
import Derived.Test.YtamhlgflbacjgaaGreatF12
set_option maxRecDepth 100000
set_option maxHeartbeats 16000000
namespace Go.Proofs.YtamhlgflbacjgaaGreat
open Go.RowKit Go.Sort
def WakeX (w:World) (g h q:Nat) (EH EW:List CE) (w':World):Prop:=∃EH' EW',Bk w' g h q EH' EW'∧EH <+: EH'∧Kp [h,q] w w'∧Inv (chgsOf EH')∧WakeR (chgsOf EH) (chgsOf EW) (chgsOf EH') (chgsOf EW')∧∀x∈EH'++EW',x∈EH++EW
theorem chgs_drop (E:List CE) (r:Pr):chgsOf (dropE E r)=(chgsOf E).filter fun x=>decide (x.ref≠r):=by
 unfold chgsOf dropE;rw[List.filter_map];congr 1;apply List.filter_congr;intro x _;by_cases h:x.1.ref=r
 ·simp[h]
 ·simp[h]
theorem wakeX_any (w:World) (g h q:Nat) (EH EW:List CE) (B:Bk w g h q EH EW) (I:Inv (chgsOf EH)):
 Calls Tryz.prog 36 #[.pointer (some ⟨g,0,none⟩)] w fun e w'=>e=.returned (.tuple #[])∧WakeX w g h q EH EW w':=by
 have HA:=hY2 B I;clear B I;go_enter Tryz.func36,Tryz.ntmps36
 go_wp2;go_step3;go_wp2;go_step3;go_wp2;go_loopg [] EW.length (fun gk wr=>Hid (∃EH' EW',EW'.length≤gk∧Bk wr g h q EH' EW'∧EH <+: EH'∧Kp [h,q] w wr∧Inv (chgsOf EH')∧(∃n,WSteps n (chgsOf EH) (chgsOf EW) (chgsOf EH') (chgsOf EW'))∧∀x∈EH'++EW',x∈EH++EW))
 case atStart=>exact⟨EH,EW,lRf,HA.out.1,List.prefix_refl _,Kp.refl _ _,HA.out.2,⟨0,rfl,rfl⟩,fun _ h=>h⟩
 case round=>
  clear HA;obtain⟨EH1,EW1,hgk,hB,hpre,hkp,hIv,hst,hold⟩:=hrel.out;clear hrel;obtain⟨go,hgo⟩:∃x:Nat,Hid (x=gk):=⟨_,rfl⟩
  have E0:=waiting_any g h q (ents EH1) (ents EW1) wr hB.book (by rw[ents_len];have:=hB.many;omega);have HB:=hY4 hgk hB hpre hkp;have HIV:=hY2 hIv hst;have HOL:Hid (∀x∈EH1++EW1,x∈EH++EW):=hold;clear hgk hB hpre hkp hIv hst hold;go_wp2_with fail;go_fit E0;rintro e w1 ⟨v,ts,rfl,q1,q2,q3,q4⟩;have hB1:Bk w1 g h q EH1 EW1:=HB.out.2.1.below q4;have hP:IsPairs w1 v ts:=by
   refine RowPr.pairs q3 ?_ (fun r hr=>?_)
   ·have:=q1.length_eq;have:=HB.out.2.1.many;rw[List.length_map,ents_len] at *;omega
   ·have:r∈(ents EW1).map (·.1):=q1.mem_iff.1 hr;obtain⟨x,hx,rfl⟩:=List.mem_map.1 this;exact HB.out.2.1.book.wait.r64 x hx
  obtain⟨va,vc,rfl,p1,p2,p3,p4⟩:=hP;have HP:Hid (ts≠[]→∃b off,va=some ⟨b,off,none⟩∧_):=p4;have HR:=hY5 hB1 q1 p3 (HB.out.2.2.2.trans (Kp.of q4):_) p2;have HRS:=hY2 q2 ((by rw[←ents_keys];exact q1):ts.Perm (EW1.map (·.1.ref)));clear q1 q2 q3 q4 hB1 p1 p2 p3 p4 E0;go_wp2_with fail;go_loopg [8] ts.length (fun gk i wq=>∃k:Nat,k+gk=ts.length∧i=.int .i64 k∧Hid (Below w1.heap.size w1 wq∧∀j (hj:j<ts.length),j<k→∀p∈EW1,p.1.ref=ts[j]→¬Ready (chgsOf EH1) p.1))
  case atStart=>exact⟨0,by omega,rfl,Below.refl _ _,fun j _ h=>absurd h (Nat.not_lt_zero _)⟩
  case round=>
   obtain⟨k,hk,rfl,hb0⟩:=hrel;have hb:Hid (Below w1.heap.size w1 wr):=hb0.out.1;have HNR:Hid (∀j (hj:j<ts.length),j<k→∀p∈EW1,p.1.ref=ts[j]→¬Ready (chgsOf EH1) p.1):=hb0.out.2;clear hb0;by_cases hlt:k<ts.length
   ·obtain⟨b,off,rfl,h4,h5⟩:=HP.out (fun e=>by rw[e] at hlt;simp at hlt);have x0:wr.cell? ⟨b,off+k*2,none⟩=some (.int .i64 ts[k].1):=by rw[hb.out.cell (p:=⟨b,off+k*2,none⟩) h4];exact(h5 k hlt).1
    have x1:wr.cell? ⟨b,off+k*2+1,none⟩=some (.int .i64 ts[k].2):=by rw[hb.out.cell (p:=⟨b,off+k*2+1,none⟩) h4];exact(h5 k hlt).2
    have g1:(k:Int)<ts.length:=by omega
    have g2:(k:Int)<1000000:=by
     have:=HR.out.2.1.length_eq;have:=HB.out.2.1.many;rw[List.length_map,ents_len] at *;omega
    have h64:R64 ts[k]:=HR.out.2.2.1 _ (List.getElem_mem hlt);have hin:ts[k]∈EW1.map (·.1.ref):=by
     have:=HR.out.2.1.mem_iff.1 (List.getElem_mem hlt);rw[ents_keys] at this;exact this
    obtain⟨r,hq⟩:=gNz (ts[k]:Pr);rw[hq] at x0 x1 h64 hin;obtain⟨p,hp,hpr,hpv,_⟩:=ent_of hin;have HK:=hY2 hk hlt;have HKR:Hid (∃h:k<ts.length,ts[k]=r):=⟨hlt,hq⟩
    have HRD:Hid (Ready (chgsOf EH1) p.1↔hasL (ents EH1) p.1.deps=true):=by
     show _↔_;unfold Ready hasL;rw[refs_chgs,List.all_eq_true];exact⟨fun h d hd=>mem_keys.1 (h d hd),fun h d hd=>mem_keys.2 (h d hd)⟩
    have bA:=bAl wr (.cells #[.int .i64 r.1,.int .i64 r.2] 45);have N:=heap_alloc_new wr (.cells #[.int .i64 r.1,.int .i64 r.2] 45);have bW:Below w1.heap.size w1 (wr.alloc (.cells #[.int .i64 r.1,.int .i64 r.2] 45)):=hb.out.trans (bA.mono hb.out.size);have HW:=hY3 (HR.out.1.below bW) N bW;have Hp:=hY3 hp hpr hpv;clear h5 hk hlt hb hq hin hp hpr hpv bA N bW;go_upto_region 3 with fail
    obtain⟨W,hW⟩:∃W,W=wr.alloc (.cells #[.int .i64 r.1,.int .i64 r.2] 45):=⟨_,rfl⟩
    rw[←hW] at HW ⊢;obtain⟨hBW,N,bW⟩:=HW.out;clear HW;have hs:Hid (W.heap.size=wr.heap.size+1):=by show _=_;rw[hW];simp
    clear hW x0 x1;obtain⟨-,c1,-⟩:=cLs hBW.book.box;obtain⟨c5,c6,-⟩:=cLs N;have s1:=lt_of_heap hBW.book.box;have s2:=lt_of_heap N;obtain⟨hchg,hchk⟩:=hBW.chgs p (List.mem_append_right _ Hp.out.1);have hcv:=hchg.cv;have hl:=MapL.look1 (w:=W.drew) ⟨hBW.book.wait.own,hBW.book.wait.nd,hBW.book.wait.r64⟩ Tryz.underlying75 (zeroC _) h64;have B2:=hBW.book.wait.below (bAl W (.cells #[.int .i64 0,.int .i64 0,.int .i64 0,.slice none 0 0,.slice none 0 0] 33));have hl2:=MapL.look1 (w:=(W.alloc (.cells #[.int .i64 0,.int .i64 0,.int .i64 0,.slice none 0 0,.slice none 0 0] 33)).drew) ⟨B2.own,B2.nd,B2.r64⟩ Tryz.underlying75 (zeroC _) h64;have hent:(lk (ents EW1) r).getD zC=p.2:=Hp.out.2.2;rw[hent] at hl hl2;have HC:=hY5 hBW N bW hchg hchk;obtain⟨ud,uo,lo,e1,e2,e3,e4,e5,e6⟩:=hchg;obtain⟨da,dc,rfl,_⟩:=id e3;obtain⟨oa,oc,rfl,_⟩:=id e4;have HP2:Hid (p.2=.agg #[.int .i64 p.1.actor,.int .i64 p.1.seq,.int .i64 p.1.start,.slice da p.1.deps.length dc,.slice oa lo.length oc]):=e1;rw[e1] at hl hl2 HC;clear hent B2 hcv hBW N bW e1 e2 e3 e4 e5 e6 hchk;go_region;all_goals
     have bX:=drew_of (bAl W (.cells #[.int .i64 p.1.actor,.int .i64 p.1.seq,.int .i64 p.1.start,.slice da p.1.deps.length dc,.slice oa lo.length oc] 33));have X:=show(W.alloc (.cells #[.int .i64 p.1.actor,.int .i64 p.1.seq,.int .i64 p.1.start,.slice da p.1.deps.length dc,.slice oa lo.length oc] 33)).drew.heap[W.heap.size]?=_ from heap_alloc_new W _;have hBV:=HC.out.1.below bX;have NV:=heap_below HC.out.2.1 bX lRf;have bV:=HC.out.2.2.1.trans (bX.mono HC.out.2.2.1.size);have chgV:=HC.out.2.2.2.1.below bX;have hchk:=HC.out.2.2.2.2;clear HC hl hl2 c1 c5 c6 s1 s2 bX;generalize (W.alloc (.cells #[.int .i64 p.1.actor,.int .i64 p.1.seq,.int .i64 p.1.start,.slice da p.1.deps.length dc,.slice oa lo.length oc] 33)).drew=V at *;obtain⟨-,-,-,x3,-⟩:=cLs X;have hdp:IsPairs V (.slice da p.1.deps.length dc) p.1.deps:=by
      obtain⟨ud,uo,lo',e1,_,e3,_⟩:=id chgV;simp at e1;rw[e1.1];exact e3
     have s3:=lt_of_heap X;have E1:=hasAll_any g h q (ents EH1) (ents EW1) _ p.1.deps V hBV.book hdp hBV.cvH;obtain⟨hbb,hhb⟩:∃b:Bool,Hid (b=hasL (ents EH1) p.1.deps):=⟨_,rfl⟩
     rw[←hhb.out] at E1;have HV:=hY6 X hBV NV bV chgV hchk;clear X hBV NV bV chgV hchk hdp;cases hbb with
     | false=>
      go_wp2_with fail;go_fit E1;rintro e w2 ⟨rfl,b2⟩;have HB2:Hid (Below w1.heap.size w1 w2):=HV.out.2.2.2.1.trans (b2.mono HV.out.2.2.2.1.size);clear b2 E1 x3 s3;go_wp2;go_roundg (gk - 1)
      case measure=>have:=HK.out;omega
      case rel=>
       refine⟨k+1,by have:=HK.out;omega,by first | rfl | go_num | (congr 1;unfold wrap64;have:=HK.out;omega),HB2.out,fun j hj hjk x hx hxr=>?_⟩;by_cases hjk2:j<k
       ·exact HNR.out j hj hjk2 x hx hxr
       ·obtain rfl:j=k:=by omega
        obtain⟨_,hz⟩:=HKR.out;have e9:x.1=p.1:=by
         have hnd:=(nodup_ents HR.out.1).2;refine refs_inj (L:=chgsOf EW1) (by rw[refs_chgs];exact hnd) (mem_chgs.2 ⟨x,hx,rfl⟩) (mem_chgs.2 ⟨p,Hp.out.1,rfl⟩) ?_;rw[hxr,hz,Hp.out.2.1]
        rw[e9,HRD.out,←hhb.out];decide
     | true=>
      go_wp2_with fail;go_fit E1;rintro e w2 ⟨rfl,b2⟩;have X2:=heap_below HV.out.1 b2 lRf;have hB2:=HV.out.2.1.below b2;have N2:=heap_below HV.out.2.2.1 b2 lRf;have bb2:Below w1.heap.size w1 w2:=HV.out.2.2.2.1.trans (b2.mono HV.out.2.2.2.1.size);have chg2:=HV.out.2.2.2.2.1.below b2;have hchk:=HV.out.2.2.2.2.2;clear HV b2 E1 x3 s3;obtain⟨-,c1,-⟩:=cLs hB2.book.box;obtain⟨c5,c6,-⟩:=cLs N2;obtain⟨U,hdel,hMU,htU⟩:=MapL.del (w:=w2.drew) ⟨hB2.book.wait.own,hB2.book.wait.nd,hB2.book.wait.r64⟩ Tryz.underlying75 h64 0;have HU:=hY8 X2 hB2 N2 bb2 chg2 hchk hMU htU;clear X2 hB2 N2 bb2 chg2 hchk hMU htU;go_upto_region 5 with fail
      go_region_law (refine step_delete_known rfl (.tmp 26) (.tmp 27) 75 45 rfl (.map (some q)) (refV r) _ U (by simp[Act.eval]) (by simp[Act.eval]) hdel ?_);all_goals
       obtain⟨X2,hB2,N2,bb2,chg2,hchk,hMU,htU⟩:=HU.out;clear HU c1 c5 c6 hdel;have hBD:Bk w2.drew g h q EH1 EW1:=hB2.below (drew_of (Below.refl _ w2));have hBU:=hBD.drop r hMU htU;have kU:=(Kp.of (S:=[q]) (drew_of (Below.refl w2.heap.size w2))).trans (Kp.turned htU);have ncU:NoCells w2 [q]:=noCells_map hB2.book.wait;have notq:∀{k:Nat} {cs:Array Value} {T:TypeId} {x:Value},w2.heap[k]?=some (.cells cs T)→cs[0]?=some x→k∉[q]:=fun {k cs T x} hk hx e=>by
        have h1:=ncU k e 0;simp[World.cell?,hk,hx] at h1
       have XU:=kU.heap X2 (notq X2 rfl);have NU:=kU.heap N2 (notq N2 rfl);have chgU:=chg2.keep kU ncU;have kk:Kp [h,q] w U:=(HR.out.2.2.2.1.trans (Kp.of bb2)).trans (kU.mono (by simp));have hd:∀d∈p.1.deps,d∈EH1.map (·.1.ref):=fun d hd=>by
        have h1:=hhb.out;unfold hasL at h1;exact mem_keys.2 ((List.all_eq_true.1 h1.symm) d hd)
       have E2:=fitsX_any U g h q EH1 (dropE EW1 r) _ p.1 hBU chgU hchk hd HIV.out.1;obtain⟨y0,y1,y2,y3,y4,-⟩:=cLs XU;have s4:=lt_of_heap XU;have HU2:=hY7 XU hBU NU chgU hchk kk hd;clear X2 hB2 N2 bb2 chg2 hchk hMU htU hBD hBU kU ncU notq XU NU chgU kk hd;go_wp2_with fail;go_fit E2;rintro e w3 ⟨⟨fb,rfl,hfx⟩,b3⟩;have HFB:Hid (fb=true↔FitC (chgsOf EH1) p.1):=fitC_bool hfx;clear hfx;have HLE:Hid (Least (chgsOf EH1) (chgsOf EW1) p.1):=by
        refine⟨mem_chgs.2 ⟨p,Hp.out.1,rfl⟩,by rw[HRD.out,←hhb.out],fun x hx hr=>?_⟩;obtain⟨y,hy,rfl⟩:=mem_chgs.1 hx;obtain⟨hz,hzr⟩:=HKR.out;obtain⟨j,hj,ej⟩:=List.getElem_of_mem (HRS.out.2.mem_iff.2 (List.mem_map.2 ⟨y,hy,rfl⟩));rcases Nat.lt_trichotomy j k with h1 | h1 | h1
        ·exact absurd hr (HNR.out j hj h1 y hy ej.symm)
        ·left;subst h1;rw[←ej,hzr,Hp.out.2.1]
        ·right;have:=List.pairwise_iff_getElem.1 HRS.out.1 k j hz hj h1;rw[hzr,ej] at this;rw[Hp.out.2.1];exact this
       have HDE:Hid (chgsOf (dropE EW1 r)=(chgsOf EW1).filter fun x=>decide (x.ref≠p.1.ref)):=by
        show _=_;rw[Hp.out.2.1];exact chgs_drop EW1 r
       have HW3:Hid (Below U.heap.size U w3):=b3;have HL:Hid ((dropE EW1 r).length<EW1.length):=dropE_len EW1 r (by rw[←Hp.out.2.1];exact List.mem_map.2 ⟨p,Hp.out.1,rfl⟩);clear b3 E2 y0 y1 y2 y3 y4 s4;cases fb with
       | false=>
        go_wp2;go_roundg (go - 1)
        case measure=>have:=hgo.out;have:=HL.out;have:=HB.out.1;omega
        case rel=>exact⟨EH1,dropE EW1 r,by have:=hgo.out;have:=HL.out;have:=HB.out.1;omega,HU2.out.2.1.below HW3.out,HB.out.2.2.1,HU2.out.2.2.2.2.2.1.trans (Kp.of HW3.out),HIV.out.1,by
         obtain⟨n,hn⟩:=HIV.out.2;exact⟨n+1,_,_,hn,p.1,HLE.out,Or.inr ⟨fun h=>(by cases HFB.out.2 h),rfl⟩,HDE.out⟩,fun x hx=>HOL.out x (by
         rcases List.mem_append.1 hx with h | h
         ·exact List.mem_append_left _ h
         ·exact List.mem_append_right _ (List.mem_filter.1 h).1)⟩
       | true=>
        have hB3:=HU2.out.2.1.below HW3.out;have X3:=heap_below HU2.out.1 HW3.out lRf;have N3:=heap_below HU2.out.2.2.1 HW3.out lRf;have chg3:=HU2.out.2.2.2.1.below HW3.out;have c0:w3.cell? ⟨g,0,none⟩=some (.map (some h)):=cLo hB3.book.box 0;obtain⟨c5,c6,-⟩:=cLs N3;obtain⟨y0,y1,y2,y3,y4,-⟩:=cLs X3;have many3:=hB3.many;have hBD:Bk w3.drew g h q EH1 (dropE EW1 r):=hB3.below (drew_of (Below.refl _ w3));obtain⟨Y,hput,hMY,htY⟩:=hBD.book.has.put Tryz.underlying75 h64 (by rw[ents_len];omega) (.agg #[.int .i64 p.1.actor,.int .i64 p.1.seq,.int .i64 p.1.start,.slice da p.1.deps.length dc,.slice oa lo.length oc]);have HY:Hid (Bk Y g h q (EH1++[(p.1,(.agg #[.int .i64 p.1.actor,.int .i64 p.1.seq,.int .i64 p.1.start,.slice da p.1.deps.length dc,.slice oa lo.length oc]))]) (dropE EW1 r)∧Kp [h,q] w Y):=by
         refine⟨hBD.come p.1 _ (chg3.below (drew_of (Below.refl _ w3))) HU2.out.2.2.2.2.1 HU2.out.2.2.2.2.2.2 ?_ ?_ ?_ (by rw[Hp.out.2.1];exact hMY) htY,((HU2.out.2.2.2.2.2.1.trans (Kp.of HW3.out)).trans (Kp.of (drew_of (Below.refl w3.heap.size w3)))).trans ((Kp.turned htY).mono (by simp))⟩
         ·exact HR.out.1.dis _ (List.mem_map.2 ⟨p,Hp.out.1,rfl⟩)
         ·intro e;obtain⟨x,hx,e⟩:=List.mem_map.1 e;have:=(List.mem_filter.1 hx).2;simp[e,Hp.out.2.1] at this
         ·have:=HL.out;have:=HR.out.1.many;omega
        have HIN:Hid (Inv (chgsOf (EH1++[(p.1,(.agg #[.int .i64 p.1.actor,.int .i64 p.1.seq,.int .i64 p.1.start,.slice da p.1.deps.length dc,.slice oa lo.length oc]))]))∧∃n,WSteps n (chgsOf EH) (chgsOf EW) (chgsOf (EH1++[(p.1,(.agg #[.int .i64 p.1.actor,.int .i64 p.1.seq,.int .i64 p.1.start,.slice da p.1.deps.length dc,.slice oa lo.length oc]))])) (chgsOf (dropE EW1 r))):=by
         have e8:chgsOf (EH1++[(p.1,(Value.agg #[.int .i64 p.1.actor,.int .i64 p.1.seq,.int .i64 p.1.start,.slice da p.1.deps.length dc,.slice oa lo.length oc]))])=chgsOf EH1++[p.1]:=by unfold chgsOf;simp
         rw[e8];refine⟨HIV.out.1.more HU2.out.2.2.2.2.1 ?_ ?_ (HFB.out.1 rfl),?_⟩
         ·rw[refs_chgs];exact HR.out.1.dis _ (List.mem_map.2 ⟨p,Hp.out.1,rfl⟩)
         ·intro d hd;rw[refs_chgs];exact HU2.out.2.2.2.2.2.2 d hd
         ·obtain⟨n,hn⟩:=HIV.out.2;exact⟨n+1,_,_,hn,p.1,HLE.out,Or.inl ⟨HFB.out.1 rfl,rfl⟩,HDE.out⟩
        clear hB3 X3 N3 chg3 many3 hBD hMY htY;go_wp2;go_region;all_goals
         clear c0 c5 c6 y0 y1 y2 y3 y4 hput;go_wp2;go_roundg (go - 1)
         case measure=>have:=hgo.out;have:=HL.out;have:=HB.out.1;omega
         case rel=>exact⟨_,dropE EW1 r,by have:=hgo.out;have:=HL.out;have:=HB.out.1;omega,HY.out.1,HB.out.2.2.1.trans (List.prefix_append _ _),HY.out.2,HIN.out.1,HIN.out.2,fun x hx=>HOL.out x (by
         rcases List.mem_append.1 hx with h | h
         ·rcases List.mem_append.1 h with h | h
          ·exact List.mem_append_left _ h
          ·rw[List.mem_singleton.1 h,←HP2.out];exact List.mem_append_right _ Hp.out.1
         ·exact List.mem_append_right _ (List.mem_filter.1 h).1)⟩
   ·have hke:k=ts.length:=by omega
    have g1:¬(k:Int)<ts.length:=by omega
    have HX:Hid (WakeX w g h q EH EW wr):=by
     obtain⟨n,hn⟩:=HIV.out.2;refine⟨EH1,EW1,HR.out.1.below hb.out,HB.out.2.2.1,HR.out.2.2.2.1.trans (Kp.of hb.out),HIV.out.1,⟨n,hn,fun x hx=>?_⟩,HOL.out⟩;obtain⟨y,hy,rfl⟩:=mem_chgs.1 hx;obtain⟨j,hj,ej⟩:=List.getElem_of_mem (HRS.out.2.mem_iff.2 (List.mem_map.2 ⟨y,hy,rfl⟩));exact HNR.out j hj (by omega) y hy ej.symm
    clear hlt hk hb hke;go_wp2;refine bodyPost_ret (results_none rfl _ _ _) rfl ?_;exact⟨rfl,HX.out⟩
end Go.Proofs.YtamhlgflbacjgaaGreat
