/-
  What is proved: as each theorem says.
  Conditions: as each theorem says.
-/
import Derived.Test.YtamhlgflbacjgaaGreatF00
import Derived.Test.YtamhlgflbacjgaaGreatF33
import Derived.Test.YtamhlgflbacjgaaGreatF35
import Derived.Test.YtamhlgflbacjgaaGreatF14
import Derived.Test.YtamhlgflbacjgaaGreatF30
import Derived.Deep.CutBlock
set_option maxRecDepth 100000
set_option maxHeartbeats 16000000
namespace Go.Proofs.YtamhlgflbacjgaaGreat
open Go.RowKit Go.Sort
def HR.turn (x:HR) (EL EW:List CE) (vl vw vp:Value) (P:List OV):HR:=⟨x.h,x.g,x.act,EL,EW,vl,vw,vp,P⟩
theorem take_stepX {lo:Lo} {HS:List HR} {w:World} (H:Hands lo HS w) {i:Nat} {x:HR} (hi:HS[i]?=some x) (ho:HOk x) {c:Chg} {S' T':Nat→Prop} {wd w6 W9:World} {EL' EW':List CE} {vl' vw' vp9:Value} {P9:List OV}
 (R':RB S' T' wd x.g EL' EW' vl' vw' w6) (I':RI (chgsOf EL') (chgsOf EW')) (TR:TakeR (chgsOf x.EL) (chgsOf x.EW) c (chgsOf EL') (chgsOf EW')) (hS:∀b,S' b→x.live b∨w.heap.size≤b)
 (K:KpS (fun b=>x.live b∨w.heap.size≤b) w W9) (hbox:W9.heap[x.h]?=some (.cells #[.int .i64 x.act,.pointer (some ⟨x.g,0,none⟩),vp9] 68))
 (hrow:∀b,b=x.g∨vl'.ownBlock=some b∨vw'.ownBlock=some b→W9.heap[b]?=w6.heap[b]?)
 (hP:(vp9=x.vp∧P9=x.P∧RowO 0 x.vp x.P W9∧(chgsOf EL'=chgsOf x.EL∨x.P=[]))∨(vp9=.slice none 0 0∧P9=[]))
 (hfz:∀p∈EL'++EW',FzC (LV lo (HS.set i (x.turn EL' EW' vl' vw' vp9 P9)) W9) W9 p.2 p.1):Hands lo (HS.set i (x.turn EL' EW' vl' vw' vp9 P9)) W9∧HOk (x.turn EL' EW' vl' vw' vp9 P9)∧∀b,(x.turn EL' EW' vl' vw' vp9 P9).live b→x.live b∨w.heap.size≤b:=by
 have hx:=List.mem_of_getElem? hi;have X:=H.hand x hx;have hl:∀b,(x.turn EL' EW' vl' vw' vp9 P9).live b→x.live b∨w.heap.size≤b:=fun b hb=>by
  rcases hb with hb | hb | hb | hb | hb
  ·exact Or.inl (Or.inl hb)
  ·exact Or.inl (Or.inr (Or.inl hb))
  ·exact hS b (R'.sl b hb)
  ·exact hS b (R'.sw b hb)
  ·rcases hP with⟨e,_⟩ | ⟨e,_⟩
   ·rw[show(x.turn EL' EW' vl' vw' vp9 P9).vp=vp9 from rfl,e] at hb;exact Or.inl (Or.inr (Or.inr (Or.inr (Or.inr hb))))
   ·rw[show(x.turn EL' EW' vl' vw' vp9 P9).vp=vp9 from rfl,e] at hb;cases hb
 obtain⟨o1,o2⟩:=H.old hi K hl;refine⟨H.step hi K ⟨hbox,?_,?_,?_,?_,R'.ne,I',X.act,?_⟩ hl hfz (fun q hq=>?_),⟨TR.finv ho.fin,?_⟩,hl⟩
 ·exact(hrow x.g (Or.inl rfl)).trans R'.box
 ·exact own_stay R'.rowL fun b hb=>hrow b (Or.inr (Or.inl hb))
 ·exact own_stay R'.rowW fun b hb=>hrow b (Or.inr (Or.inr hb))
 ·rcases hP with⟨rfl,rfl,h,_⟩ | ⟨rfl,rfl⟩
  ·exact h
  ·exact World.ownsRow_nil _ _ _ _
 ·rcases hP with⟨_,rfl,_⟩ | ⟨_,rfl⟩
  ·exact X.few
  ·exact Nat.zero_le _
 ·rcases hP with⟨_,rfl,_⟩ | ⟨_,rfl⟩
  ·exact o2 x hx q hq
  ·cases hq
 ·show PendOk (startN (chgsOf EL')) (P9.map (·.1));rcases hP with⟨_,rfl,_,h | h⟩ | ⟨_,rfl⟩
  ·rw[h];exact ho.pok
  ·rw[h];intro k hk;simp at hk
  ·intro k hk;simp at hk
theorem take_step {lo:Lo} {HS:List HR} {w:World} (H:Hands lo HS w) {i:Nat} {x:HR} (hi:HS[i]?=some x) (ho:HOk x) {c:Chg} {S' T':Nat→Prop} {wd w6 W9:World} {EL' EW':List CE} {vl' vw' vp9:Value} {P9:List OV}
 (R':RB S' T' wd x.g EL' EW' vl' vw' w6) (I':RI (chgsOf EL') (chgsOf EW')) (TR:TakeR (chgsOf x.EL) (chgsOf x.EW) c (chgsOf EL') (chgsOf EW')) (hS:∀b,S' b→x.live b∨w.heap.size≤b)
 (K:KpS (fun b=>x.live b∨w.heap.size≤b) w W9) (hbox:W9.heap[x.h]?=some (.cells #[.int .i64 x.act,.pointer (some ⟨x.g,0,none⟩),vp9] 68))
 (hrow:∀b,b=x.g∨vl'.ownBlock=some b∨vw'.ownBlock=some b→W9.heap[b]?=w6.heap[b]?)
 (hP:(vp9=x.vp∧P9=x.P∧RowO 0 x.vp x.P W9∧(chgsOf EL'=chgsOf x.EL∨x.P=[]))∨(vp9=.slice none 0 0∧P9=[]))
 (hfz:∀p∈EL'++EW',FzC (LV lo (HS.set i (x.turn EL' EW' vl' vw' vp9 P9)) W9) W9 p.2 p.1):StepP lo HS i x w W9:=by
 obtain⟨h1,h2,_⟩:=take_stepX H hi ho R' I' TR hS K hbox hrow hP hfz;exact⟨_,h1,⟨rfl,rfl,rfl⟩,h2,K⟩
def onB (J:List CX) (r:Pr):Bool:=J.any fun x=>decide (r∈x.c.deps)
def headsM (l J:List CX):List Pr:=J.foldl (fun acc x=>if onB l x.c.ref then acc else putS acc x.c.ref) []
theorem headsM_snoc (l J:List CX) (x:CX):headsM l (J++[x])=if onB l x.c.ref then headsM l J else putS (headsM l J) x.c.ref:=by
 unfold headsM;rw[List.foldl_append];rfl
theorem headsM_facts (l:List CX):∀(J:List CX) (acc:List Pr),Rise acc→Rise (J.foldl (fun acc x=>if onB l x.c.ref then acc else putS acc x.c.ref) acc)∧(J.foldl (fun acc x=>if onB l x.c.ref then acc else putS acc x.c.ref) acc).length≤acc.length+J.length
 | [],acc,h=>⟨h,lRf⟩
 | x::J,acc,h=>by
  rw[List.foldl_cons];by_cases ho:onB l x.c.ref=true
  ·rw[if_pos ho];obtain⟨h1,h2⟩:=headsM_facts l J acc h;exact⟨h1,by rw[List.length_cons];omega⟩
  ·rw[if_neg ho];obtain⟨h1,h2⟩:=headsM_facts l J _ (rise_putS h);have:=putS_len acc x.c.ref;exact⟨h1,by rw[List.length_cons];omega⟩
def OwnB (w0:World) (u:Value) (w:World):Prop:=∀b,u.ownBlock=some b→w0.heap.size≤b∧b<w.heap.size
def HeadsP (w:World) (O:List Pr) (e:Ending) (w':World):Prop:=(∃u,e=.returned u∧IsPairs w' u O∧Wh u∧OwnB w u w')∧Below w.heap.size w w'
theorem rHeads_any (g:Nat) (vl vw:Value) (l:List CX) (w:World) (bb:w.heap[g]?=some (.cells #[vl,vw] 73)) (hv:IsChgs w vl l) (hl:l.length≤1000):
 Calls Tryz.prog 60 #[.pointer (some ⟨g,0,none⟩)] w fun e w'=>HeadsP w (headsM l l) e w':=by
 obtain⟨la,ln,lc,rfl⟩:∃a n c,vl=.slice a n c:=by obtain⟨a,c,e,_⟩:=hv;exact⟨_,_,_,e⟩
 have hln:ln=l.length:=by obtain⟨_,_,e,_⟩:=hv;exact(Value.slice.inj e).2.1
 have HV:Hid (IsChgs w (.slice la ln lc) l):=hv;have HLN:=hY2 hln hl;have HBX:Hid (w.heap[g]?=some (.cells #[.slice la ln lc,vw] 73)):=bb;obtain⟨post,hpost⟩:∃post:Ending→World→Prop,post=fun e w'=>HeadsP w (headsM l l) e w':=⟨_,rfl⟩
 have HPO:Hid (post=fun e w'=>HeadsP w (headsM l l) e w'):=hpost;rw[←hpost];clear hv hl hln bb hpost;go_enter Tryz.func60,Tryz.ntmps60
 go_wp2_with fail;go_loopw [3,4] (fun oo i wr=>∃(k:Nat) (vo:Value),k≤ln∧i=.int .i64 (k:Int)∧vo=oo∧Hid (IsPairs wr vo (headsM l (l.take k))∧Wh vo∧OwnB w vo wr∧Below w.heap.size w wr)) (fun _ i _=>ln - (RowKit.intOf i).toNat)
 case atStart=>exact⟨0,_,Nat.zero_le _,rfl,rfl,isPairs_nil _ _ _,Or.inl rfl,(fun b e=>by cases e),Below.refl _ _⟩
 case round=>
  obtain⟨k,vo,hk,rfl,rfl,HR⟩:=hrel;have d0:wr.cell? ⟨g,0,none⟩=some (.slice la ln lc):=cLo (heap_below HBX.out HR.out.2.2.2 lRf) 0;by_cases hlt:k<ln
  ·obtain⟨x,hx⟩:∃z:CX,l[k]?=some z:=⟨_,List.getElem?_eq_getElem (by have:=HLN.out.1;omega)⟩
   obtain⟨xB,xO,exl,xbl,xq1,xq2,xin,xcell,xq3⟩:=chgs_one HV.out hx;clear xq1 xq2 xq3;obtain⟨⟨x1,x2,x3⟩,xd,xdn,xdc,xo,xom,xoe,xeu,xeo⟩:=CX.form xin;clear x3;obtain⟨xa,hxa⟩:=gNz (x.c.actor:Int);obtain⟨xs,hxs⟩:=gNz (x.c.seq:Int);obtain⟨xt,hxt⟩:=gNz (x.c.start:Int);have hla:la=some ⟨xB,xO,none⟩:=exl;subst hla;have HCX:Hid (∀W,Below w.heap.size w W→W.cell? ⟨g,0,none⟩=some (.slice (some ⟨xB,xO,none⟩) ln lc)∧W.cell? ⟨xB,xO+k*5,none⟩=some (.int .i64 xa)∧W.cell? ⟨xB,xO+k*5+1,none⟩=some (.int .i64 xs)∧W.cell? ⟨xB,xO+k*5+2,none⟩=some (.int .i64 xt)∧W.cell? ⟨xB,xO+k*5+3,none⟩=some (.slice xd xdn xdc)∧W.cell? ⟨xB,xO+k*5+4,none⟩=some (.slice xo xom xoe)):=fun W hW=>by
    have hc:∀j,j<5→W.cell? ⟨xB,xO+k*5+j,none⟩=x.cells[j]?:=fun j hj=>(hW.cell (p:=⟨xB,xO+k*5+j,none⟩) xbl).trans (xcell j hj);refine⟨cLo (heap_below HBX.out hW lRf) 0,?_,?_,?_,?_,?_⟩
    ·rw[←hxa];exact hc 0 (by omega)
    ·rw[←hxs];exact hc 1 (by omega)
    ·rw[←hxt];exact hc 2 (by omega)
    ·rw[←xeu];exact hc 3 (by omega)
    ·rw[←xeo];exact hc 4 (by omega)
   have HXR:Hid (l[k]?=some x∧x.c.ref=(xa,xs)∧R64 (xa,xs)):=⟨hx,by unfold Chg.ref;rw[hxa,hxs],by rw[←hxa];exact x1,by rw[←hxs];exact x2⟩
   have HLT:Hid (k<ln):=hlt;have g1:(k:Int)<ln:=by omega
   have g3:(0:Int)≤k:=by omega
   have HG:=hY2 g1 g3;obtain⟨wo,hwo⟩:∃x:World,x=wr:=⟨wr,rfl⟩
   subst hwo;clear hlt hk exl xbl xin xcell x1 x2 xeu xeo hxa hxs hxt hx g3;go_wp2_with fail;clear d0 g1;go_loopw [5,6] (fun on i wr=>∃(m:Nat) (ob:Bool),m≤ln∧i=.int .i64 (m:Int)∧on=.bool ob∧Hid (ob=onB (l.take m) (xa,xs)∧Below wo.heap.size wo wr)) (fun _ i _=>ln - (RowKit.intOf i).toNat)
   case atStart=>exact⟨0,false,Nat.zero_le _,rfl,rfl,rfl,Below.refl _ _⟩
   case round=>
    obtain⟨m,ob,hm,rfl,rfl,HM⟩:=hrel;have HMB:Hid (Below w.heap.size w wr):=HR.out.2.2.2.trans (HM.out.2.mono HR.out.2.2.2.size);have d0:=(HCX.out wr HMB.out).1;by_cases hml:m<ln
    ·obtain⟨y,hy⟩:∃z:CX,l[m]?=some z:=⟨_,List.getElem?_eq_getElem (by have:=HLN.out.1;omega)⟩
     obtain⟨yB,yO,eyl,ybl,yq1,yq2,yin,ycell,yq3⟩:=chgs_one HV.out hy;clear yq1 yq2 yq3;obtain⟨⟨y1,y2,y3⟩,yd,ydn,ydc,yo,yom,yoe,yeu,yeo⟩:=CX.form yin;clear y3;obtain⟨ya,hya⟩:=gNz (y.c.actor:Int);obtain⟨ys,hys⟩:=gNz (y.c.seq:Int);obtain⟨yt,hyt⟩:=gNz (y.c.start:Int);have hyb:xB=yB∧xO=yO:=by injection eyl with e1;injection e1 with e2 e3;exact⟨e2,e3⟩
     obtain⟨rfl,rfl⟩:=hyb;have HCY:Hid (∀W,Below w.heap.size w W→W.cell? ⟨xB,xO+m*5+3,none⟩=some (.slice yd ydn ydc)):=fun W hW=>by rw[←yeu];exact(hW.cell (p:=⟨xB,xO+m*5+3,none⟩) ybl).trans (ycell 3 (by omega))
     have HYP:Hid (IsPairs w (.slice yd ydn ydc) y.c.deps):=by
      obtain⟨ud',uo',lo,e,i1,i2,i3,hp,_⟩:=id yin;simp only[CX.val,Value.agg.injEq,Array.mk.injEq,List.cons.injEq,and_true,true_and] at e;rw[←yeu,e.1];exact hp
     have HNX:Hid (onB (l.take (m+1)) (xa,xs)=(ob || decide ((xa,xs)∈y.c.deps))):=by
      show _=_;rw[HM.out.1,List.take_add_one,hy];unfold onB;rw[List.any_append];simp
     have HML:Hid (m<ln):=hml;have i1:(m:Int)<ln:=by omega
     have i2:(0:Int)≤m:=by omega
     have HI:=hY3 i1 i2 ((by have:=HLN.out;omega):(m:Int)<1000);have g1:=HG.out.1;have g3:=HG.out.2;clear hml hm eyl ybl yin ycell y1 y2 yeu yeo hya hys hyt hy;go_upto_region 9 with fail
     clear d0;refine rNh (fun W=>Below wo.heap.size wo W) (drew_of HM.out.2) (fun hHeld=>?_);have HCL:Hid (∀W,Below wo.heap.size wo W→(W.cell? ⟨g,0,none⟩=some (.slice (some ⟨xB,xO,none⟩) ln lc)∧W.cell? ⟨xB,xO+k*5,none⟩=some (.int .i64 xa)∧W.cell? ⟨xB,xO+k*5+1,none⟩=some (.int .i64 xs)∧W.cell? ⟨xB,xO+k*5+2,none⟩=some (.int .i64 xt)∧W.cell? ⟨xB,xO+k*5+3,none⟩=some (.slice xd xdn xdc)∧W.cell? ⟨xB,xO+k*5+4,none⟩=some (.slice xo xom xoe))∧W.cell? ⟨xB,xO+m*5+3,none⟩=some (.slice yd ydn ydc)):=fun W hW=>⟨HCX.out W (HR.out.2.2.2.trans (hW.mono HR.out.2.2.2.size)),HCY.out W (HR.out.2.2.2.trans (hW.mono HR.out.2.2.2.size))⟩
     cases ob with
     | true=>
      have HN2:=hY2 HNX.out.symm hHeld;refine tkC 0 HCL rfl ?_;refine tkC 1 HCL rfl ?_;refine sk 2 rfl ?_;refine sk 3 rfl ?_;refine sk 4 rfl ?_;refine sk 5 rfl ?_;refine sk 6 rfl ?_;refine sk 7 rfl ?_;refine sk 8 rfl ?_;refine sk 9 rfl ?_;refine sk 10 rfl ?_;refine sk 11 rfl ?_;refine sk 12 rfl ?_;refine sk 13 rfl ?_;refine sk 14 rfl ?_;refine sk 15 rfl ?_;refine sk 16 rfl ?_;refine sk 17 rfl ?_;refine sk 18 rfl ?_;refine tkC 19 HCL rfl ?_;refine tkC 20 HCL rfl ?_;refine wDn ?_;clear hHeld i1 i2 g1 g3;go_upto_region 8 with fail
      have i3:=HI.out.2.2;go_wp2;go_roundw
      case rel=>exact⟨m+1,true,HML.out,by go_num,rfl,HN2.out⟩
      case measure=>have:=HML.out;simp[RowKit.intOf];omega
     | false=>
      refine tkC 0 HCL rfl ?_;refine tkC 1 HCL rfl ?_;refine tkC 2 HCL rfl ?_;refine tkC 3 HCL rfl ?_;refine tkC 4 HCL rfl ?_;refine tkC 5 HCL rfl ?_;refine tkC 6 HCL rfl ?_;refine tkC 7 HCL rfl ?_;refine tkC 8 HCL rfl ?_;refine tkC 9 HCL rfl ?_;refine tkC 10 HCL rfl ?_;refine tkC 11 HCL rfl ?_;refine tkC 12 HCL rfl ?_;refine tkC 13 HCL rfl ?_;refine tkC 14 HCL rfl ?_;refine tkC 15 HCL rfl ?_;refine tkC 16 HCL rfl ?_;have ER:=rRefC_any xa xs xt xd xdn xdc xo xom xoe wr.drew;refine ts 17 rfl (fun K hK=>?_);go_simp;go_at_call 50;refine ER.mono ?_;rintro e w4 ⟨rfl,hb4⟩;go_wp2_with fail;refine hK.out _ _ (hHeld.trans (hb4.mono hHeld.size)) (fun hH4=>?_);clear hK K ER;try simp only[Act.put,nm]
      have EH:=rHas_any (.slice yd ydn ydc) y.c.deps (xa,xs) w4 (HYP.out.below (HR.out.2.2.2.trans (hH4.mono HR.out.2.2.2.size)));obtain⟨hb,hhb⟩:=gNz (decide ((xa,xs)∈y.c.deps):Bool);rw[hhb] at EH;have HHB:Hid (hb=onB (l.take (m+1)) (xa,xs)):=by show _=_;rw[HNX.out,hhb];rfl
      clear hhb;unfold refV at EH ⊢;refine ts 18 rfl (fun K hK=>?_);go_simp;go_at_call 17;refine EH.mono ?_;rintro e w5 ⟨rfl,hb5⟩;go_wp2_with fail;refine hK.out _ _ (hH4.trans (hb5.mono hH4.size)) (fun hH5=>?_);clear hK K EH;try simp only[Act.put,nm]
      refine tk 19 rfl ?_;refine tk 20 rfl ?_;have HN2:=hY2 HHB.out hH5;refine wDn ?_;clear hHeld hH4 hH5 hb4 hb5 i1 i2 g1 g3;go_upto_region 8 with fail
      have i3:=HI.out.2.2;go_wp2;go_roundw
      case rel=>exact⟨m+1,hb,HML.out,by go_num,rfl,HN2.out⟩
      case measure=>have:=HML.out;simp[RowKit.intOf];omega
    ·have i1:¬(m:Int)<ln:=by omega
     have HO:Hid (ob=onB l (xa,xs)):=by
      have h1:=HM.out.1;rw[List.take_of_length_le (by have:=HLN.out.1;omega)] at h1;exact h1
     have HNX:Hid (headsM l (l.take (k+1))=if ob then headsM l (l.take k) else putS (headsM l (l.take k)) (xa,xs)):=by
      show _=_;rw[List.take_add_one,HXR.out.1,Option.toList_some,headsM_snoc,HXR.out.2.1,HO.out]
     have HR2:=hY4 (HR.out.1.below HM.out.2) HR.out.2.1 ((fun b e=>⟨(HR.out.2.2.1 b e).1,Nat.lt_of_lt_of_le (HR.out.2.2.1 b e).2 HM.out.2.size⟩):OwnB w vo wr) HMB.out;have HG2:Hid ((k:Int)<1000):=by have:=HLT.out;have:=HLN.out;show _<_;omega
     clear hml hm HM HMB;cases ob with
     | true=>
      have HN2:Hid (IsPairs wr vo (headsM l (l.take (k+1)))∧Wh vo∧OwnB w vo wr∧Below w.heap.size w wr):=by rw[HNX.out,if_pos rfl];exact HR2.out
      clear HNX HR2;go_upto_region 4 with fail
      have g2:=HG2.out;go_wp2;go_roundw
      case rel=>exact⟨k+1,vo,HLT.out,by go_num,rfl,HN2.out⟩
      case measure=>have:=HLT.out;simp[RowKit.intOf];omega
     | false=>
      obtain⟨_,z0,z1,z2,z3,z4⟩:=HCX.out wr HR2.out.2.2.2;have E1:=rRefC_any xa xs xt xd xdn xdc xo xom xoe wr;have g1:=HG.out.1;have g3:=HG.out.2
      skip
      go_wp2_with fail;go_fit E1;rintro e w4 ⟨rfl,b4⟩;have E2:=rPutR_any vo _ (xa,xs) w4 (HR2.out.1.below b4) HR2.out.2.1 HXR.out.2.2 (by
       have h1:=(headsM_facts l (l.take k) [] List.Pairwise.nil).2;have:=HLN.out;rw[List.length_take,List.length_nil] at h1;unfold headsM;omega)
      have HB4:Hid (Below wr.heap.size wr w4):=b4;unfold refV at E2;clear b4 E1 z0 z1 z2 z3 z4 d0 g1 g3;go_wp2_with fail;refine Calls.mono E2 ?_;rintro e w5 ⟨⟨u,rfl,h1,h2,h3⟩,b5⟩;have HN2:Hid (IsPairs w5 u (headsM l (l.take (k+1)))∧Wh u∧OwnB w u w5∧Below w.heap.size w w5):=by
       rw[HNX.out,if_neg (by decide)];have hw4:=HR2.out.2.2.2.trans (HB4.out.mono HR2.out.2.2.2.size);refine⟨h1,h2,fun b e=>?_,hw4.trans (b5.mono hw4.size)⟩;rcases h3 with rfl | h3
       ·have:=HR2.out.2.2.1 b e;have:=HB4.out.size;have:=b5.size;omega
       ·have:=h3 b e;have:=hw4.size;omega
      clear h1 h2 h3 b5 E2;have g2:=HG2.out;go_wp2;go_roundw
      case rel=>exact⟨k+1,u,HLT.out,by go_num,rfl,HN2.out⟩
      case measure=>have:=HLT.out;simp[RowKit.intOf];omega
  ·have g1:¬(k:Int)<ln:=by omega
   have hall:l.take k=l:=List.take_of_length_le (by have:=HLN.out.1;omega);have HEND:Hid (post (.returned vo) wr):=by
    show post _ _;rw[HPO.out];have h1:=HR.out;rw[hall] at h1;exact⟨⟨_,rfl,h1.1,h1.2.1,h1.2.2.1⟩,h1.2.2.2⟩
   clear hlt hk hall;go_wp2;exact HEND.out
end Go.Proofs.YtamhlgflbacjgaaGreat
