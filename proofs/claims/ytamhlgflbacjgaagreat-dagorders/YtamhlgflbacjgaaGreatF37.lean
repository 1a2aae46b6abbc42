/-
  What is proved: as each theorem says.
  Conditions: as each theorem says.
-/
import Derived.Test.YtamhlgflbacjgaaGreatF00
import Derived.Test.YtamhlgflbacjgaaGreatF36
import Derived.Test.YtamhlgflbacjgaaGreatF26
set_option maxRecDepth 100000
set_option maxHeartbeats 16000000
namespace Go.Proofs.YtamhlgflbacjgaaGreat
open Go.RowKit Go.Sort
theorem pairs_stay {w w':World} {v:Value} {l:List Pr} (h:IsPairs w v l) (hs:∀b,v.ownBlock=some b→w'.heap[b]?=w.heap[b]?):IsPairs w' v l:=by
 obtain⟨a,cap,rfl,h1,h2,hr,h3⟩:=h;refine⟨a,cap,rfl,h1,h2,hr,fun hl=>?_⟩;obtain⟨b,off,rfl,h4,h5⟩:=h3 hl;have e:=hs b rfl;have hlt:b<w'.heap.size:=by
  rw[Array.getElem?_eq_getElem h4] at e;exact lt_of_heap e
 refine⟨b,off,rfl,hlt,fun k hk=>?_⟩;have hc:∀o,w'.cell? ⟨b,o,none⟩=w.cell? ⟨b,o,none⟩:=fun o=>by unfold World.cell?;dsimp only;rw[e]
 rw[hc,hc];exact h5 k hk
theorem own_wh {W:World} {B E k n:Nat} {v:Value} {xs:List Value} (h:W.ownsRow B E k v n xs):Wh v:=by
 rcases h.2 with⟨rfl,_⟩ | ⟨g,cap,cur,rfl,_⟩
 ·exact Or.inl rfl
 ·exact Or.inr ⟨_,_,_,rfl⟩
def CommitP (lo:Lo) (HS:List HR) (i:Nat) (x:HR) (w:World) (e:Ending) (w':World):Prop:=∃r1 r2 t,e=.returned (.tuple #[.agg #[.int .i64 r1,.int .i64 r2],.int .i64 t])∧StepP lo HS i x w w'
theorem rCommit_any (lo:Lo) (HS:List HR) (i:Nat) (x:HR) (w:World) (H:Hands lo HS w) (hi:HS[i]?=some x) (ho:HOk x):
 Calls Tryz.prog 24 #[.pointer (some ⟨x.h,0,none⟩)] w fun e w'=>CommitP lo HS i x w e w':=by
 have hx:=List.mem_of_getElem? hi;obtain⟨f,nw,HN0⟩:=H.inn hx ho;obtain⟨h,hh⟩:=gNz (x.h);obtain⟨g,hg⟩:=gNz (x.g);obtain⟨act,hact⟩:=gNz (x.act);obtain⟨vl,hvl⟩:=gNz (x.vl);obtain⟨vw,hvw⟩:=gNz (x.vw);obtain⟨vp,hvp⟩:=gNz (x.vp);obtain⟨P,hP⟩:=gNz (x.P);obtain⟨cx,hcx⟩:=gNz (x.EL.map toCX);rw[hh,hg,hact,hvl,hvw,hvp,hP,hcx] at HN0;rw[hh];obtain⟨pa,pc,hpv⟩:=own_form HN0.hp;obtain⟨pn,hpn⟩:=gNz (P.length);rw[hpn] at hpv;obtain⟨la,ln,lc,hlv⟩:∃a n c,vl=.slice a n c:=by obtain⟨a,c,e,_⟩:=HN0.hc;exact⟨_,_,_,e⟩
 obtain⟨wa,wc0,hwv⟩:=HN0.hw;have hlnc:ln=cx.length:=by
  obtain⟨_,_,e,_⟩:=HN0.hc;rw[hlv] at e;exact(Value.slice.inj e).2.1
 subst hpv hlv hwv;have HEQ:Hid (x.h=h∧x.g=g∧x.act=act∧x.vl=.slice la ln lc∧x.vw=.slice wa nw wc0∧x.vp=.slice pa pn pc∧x.P=P∧x.EL.map toCX=cx∧P.length=pn):=⟨hh,hg,hact,hvl,hvw,hvp,hP,hcx,hpn⟩
 have HX:Hid (HIn h g act cx f (.slice la ln lc) (.slice wa nw wc0) (.slice pa pn pc) nw P w):=HN0;have HLN:Hid (ln≤120∧nw≤120):=⟨by have:=HN0.hcl;omega,HN0.hnw⟩
 have HH:Hid (Hands lo HS w∧HS[i]?=some x∧HOk x):=⟨H,hi,ho⟩
 obtain⟨post,hpost⟩:∃post:Ending→World→Prop,post=fun e w'=>CommitP lo HS i x w e w':=⟨_,rfl⟩
 have HPO:Hid (post=fun e w'=>CommitP lo HS i x w e w'):=hpost;rw[←hpost];have HNONE:Hid (∀(W:World) (t:Int),Below w.heap.size w W→post (.returned (.tuple #[.agg #[.int .i64 0,.int .i64 0],.int .i64 t])) ((W.setCell ⟨w.heap.size,0,none⟩ (.int .i64 0)).setCell ⟨w.heap.size,1,none⟩ (.int .i64 0))):=fun W t hB=>by
  rw[HPO.out];exact⟨_,_,_,rfl,step_none H hi ho ((hB.setCell lRf _).setCell lRf _)⟩
 clear hpost H hi ho hx HN0 hh hg hact hvl hvw hvp hP hcx hpn hlnc;go_enter Tryz.func24,Tryz.ntmps24
 go_upto_region 1 with fail
 have HW0:Hid ((w.alloc (.cells #[.int .i64 0,.int .i64 0] 45)).heap[w.heap.size]?=some (.cells #[.int .i64 0,.int .i64 0] 45)∧Below w.heap.size w (w.alloc (.cells #[.int .i64 0,.int .i64 0] 45))∧w.heap.size<(w.alloc (.cells #[.int .i64 0,.int .i64 0] 45)).heap.size):=⟨heap_alloc_new w _,bAl _ _,by simp⟩
 generalize w.alloc (.cells #[.int .i64 0,.int .i64 0] 45)=W0 at *;have H0:=HX.out.below HW0.out.2.1;obtain⟨-,d1,-⟩:=cLs H0.hb;have E1:=rHeads_any g (.slice la ln lc) (.slice wa nw wc0) cx W0 H0.bb H0.hc (by have:=H0.hcl;omega);obtain⟨O,hO⟩:=gNz (headsM cx cx);rw[hO] at E1;clear H0 hO;go_wp2_with fail;go_fit E1;rintro e w1 ⟨⟨u,rfl,hup,huw,huo⟩,b1⟩;obtain⟨ua,uc,hu,_⟩:=id hup;obtain⟨on,hon⟩:=gNz (O.length);rw[hon] at hu;subst hu;have HU:Hid (IsPairs w1 (.slice ua on uc) O∧Wh (.slice ua on uc)∧OwnB W0 (.slice ua on uc) w1∧O.length=on):=⟨hup,huw,huo,hon⟩
 have HW1:Hid (w1.heap[w.heap.size]?=some (.cells #[.int .i64 0,.int .i64 0] 45)∧Below w.heap.size w w1):=⟨heap_below HW0.out.1 b1 lRf,HW0.out.2.1.trans (b1.mono HW0.out.2.1.size)⟩
 clear hup huw huo hon b1 E1 d1;have d2:w1.cell? ⟨h,2,none⟩=some (.slice pa pn pc):=cLo (HX.out.below HW1.out.2).hb 2;by_cases hp0:pn=0
 ·subst hp0;obtain⟨r0,r1,-⟩:=cLs HW1.out.1;have rf:=fRz HW1.out.1 0;have rf1:=fRz HW1.out.1 1;have HE:=HNONE.out w1 6 HW1.out.2;have HE1:Hid (_):=HE;have k0:((w1.setCell ⟨w.heap.size,0,none⟩ (.int .i64 0)).setCell ⟨w.heap.size,1,none⟩ (.int .i64 0)).cell? ⟨w.heap.size,0,none⟩=some (.int .i64 0):=by rw[World.cell?_setCell_other _ _ _ _ (by simp)];exact World.cell?_setCell_same _ _ _ r0
  have k1:((w1.setCell ⟨w.heap.size,0,none⟩ (.int .i64 0)).setCell ⟨w.heap.size,1,none⟩ (.int .i64 0)).cell? ⟨w.heap.size,1,none⟩=some (.int .i64 0):=World.cell?_setCell_same _ _ _ (by rw[World.cell?_setCell_other _ _ _ _ (by simp)];exact r1);clear HE;go_wp2_with fail;generalize (w1.setCell ⟨w.heap.size,0,none⟩ (.int .i64 0)).setCell ⟨w.heap.size,1,none⟩ (.int .i64 0)=w9 at *;exact bodyPost_ret (v:=.tuple #[.agg #[.int .i64 0,.int .i64 0],.int .i64 6]) (by simp[results,Tryz.results24,go_sem,k0,k1]) rfl HE1.out
 ·have hd:decide (pn=0)=false:=decide_eq_false hp0;go_upto_region 4 with fail
  clear d2 hd;go_cut [43] from 21 to 42 (fun b wx=>(b=.bool true∨b=.bool false)∧Hid (Below w1.heap.size w1 wx))
  case first=>
   have HCL:Hid (∀W,Below w1.heap.size w1 W→W.cell? ⟨h,1,none⟩=some (.pointer (some ⟨g,0,none⟩))∧W.cell? ⟨g,0,none⟩=some (.slice la ln lc)∧W.cell? ⟨g,1,none⟩=some (.slice wa nw wc0)):=fun W hW=>by
    have h0:=HX.out.below (HW1.out.2.trans (hW.mono HW1.out.2.size));exact⟨cLo h0.hb 1,cLo h0.bb 0,cLo h0.bb 1⟩
   obtain⟨sm,hsm⟩:=gNz ((ln:Int)+(nw:Int):Int);have hws:IntKind.i64.wrap ((ln:Int)+(nw:Int))=sm:=by rw[IntWalk.i64_in _ (by have:=HLN.out;omega)];exact hsm
   have HD:Hid (Below w1.heap.size w1 w1.drew):=(Below.refl _ _).drew;clear hsm hp0;refine rNh (fun W=>Below w1.heap.size w1 W) ((Below.refl _ _).drew) (fun hHeld=>?_);by_cases h1:(12:Int)<on
   ·have hd1:decide ((12:Int)<on)=true:=decide_eq_true h1;clear h1;refine tkC 0 HCL rfl ?_;refine tkC 1 HCL rfl ?_;refine tkC 2 HCL rfl ?_;refine tkC 3 HCL rfl ?_;refine sk 4 rfl ?_;refine sk 5 rfl ?_;refine sk 6 rfl ?_;refine sk 7 rfl ?_;refine sk 8 rfl ?_;refine sk 9 rfl ?_;refine sk 10 rfl ?_;refine sk 11 rfl ?_;refine sk 12 rfl ?_;refine sk 13 rfl ?_;refine sk 14 rfl ?_;refine sk 15 rfl ?_;refine sk 16 rfl ?_;refine sk 17 rfl ?_;refine sk 18 rfl ?_;refine sk 19 rfl ?_;refine sk 20 rfl ?_;refine sk 21 rfl ?_;refine tkC 22 HCL rfl ?_;refine wDn ?_;clear hHeld;go_wp2_with fail;go_meet
    case rel=>exact⟨Or.inl rfl,HD.out⟩
   ·have hd1:decide ((12:Int)<on)=false:=decide_eq_false h1;clear h1;by_cases h4:(120:Int)≤sm
    ·have hd4:decide ((120:Int)≤sm)=true:=decide_eq_true h4;clear h4;refine tkC 0 HCL rfl ?_;refine tkC 1 HCL rfl ?_;refine tkC 2 HCL rfl ?_;refine tkC 3 HCL rfl ?_;refine tkC 4 HCL rfl ?_;refine tkC 5 HCL rfl ?_;refine tkC 6 HCL rfl ?_;refine tkC 7 HCL rfl ?_;refine tkC 8 HCL rfl ?_;refine tkC 9 HCL rfl ?_;refine tkC 10 HCL rfl ?_;refine tkC 11 HCL rfl ?_;refine tkC 12 HCL rfl ?_;refine tkC 13 HCL rfl ?_;refine tkC 14 HCL rfl ?_;refine tkC 15 HCL rfl ?_;refine tkC 16 HCL rfl ?_;refine tkC 17 HCL rfl ?_;refine tkC 18 HCL rfl ?_;refine tkC 19 HCL rfl ?_;refine tkC 20 HCL rfl ?_;refine tkC 21 HCL rfl ?_;refine tkC 22 HCL rfl ?_;refine wDn ?_;clear hHeld;go_wp2_with fail;go_meet
     case rel=>exact⟨Or.inl rfl,HD.out⟩
    ·have hd4:decide ((120:Int)≤sm)=false:=decide_eq_false h4;clear h4;refine tkC 0 HCL rfl ?_;refine tkC 1 HCL rfl ?_;refine tkC 2 HCL rfl ?_;refine tkC 3 HCL rfl ?_;refine tkC 4 HCL rfl ?_;refine tkC 5 HCL rfl ?_;refine tkC 6 HCL rfl ?_;refine tkC 7 HCL rfl ?_;refine tkC 8 HCL rfl ?_;refine tkC 9 HCL rfl ?_;refine tkC 10 HCL rfl ?_;refine tkC 11 HCL rfl ?_;refine tkC 12 HCL rfl ?_;refine tkC 13 HCL rfl ?_;refine tkC 14 HCL rfl ?_;refine tkC 15 HCL rfl ?_;refine tkC 16 HCL rfl ?_;refine tkC 17 HCL rfl ?_;refine tkC 18 HCL rfl ?_;refine tkC 19 HCL rfl ?_;refine tkC 20 HCL rfl ?_;refine tkC 21 HCL rfl ?_;refine tkC 22 HCL rfl ?_;refine wDn ?_;clear hHeld;go_wp2_with fail;go_meet
     case rel=>exact⟨Or.inr rfl,HD.out⟩
  case rest=>
   obtain⟨hbb,HWC⟩:=hcut;have HW2:Hid (wc.heap[w.heap.size]?=some (.cells #[.int .i64 0,.int .i64 0] 45)∧Below w.heap.size w wc):=⟨heap_below HW1.out.1 HWC.out lRf,HW1.out.2.trans (HWC.out.mono HW1.out.2.size)⟩
   rcases hbb with rfl | rfl
   ·obtain⟨r0,r1,-⟩:=cLs HW2.out.1;have rf:=fRz HW2.out.1 0;have rf1:=fRz HW2.out.1 1;have HE:=HNONE.out wc 4 HW2.out.2;have HE1:Hid (_):=HE;have k0:((wc.setCell ⟨w.heap.size,0,none⟩ (.int .i64 0)).setCell ⟨w.heap.size,1,none⟩ (.int .i64 0)).cell? ⟨w.heap.size,0,none⟩=some (.int .i64 0):=by rw[World.cell?_setCell_other _ _ _ _ (by simp)];exact World.cell?_setCell_same _ _ _ r0
    have k1:((wc.setCell ⟨w.heap.size,0,none⟩ (.int .i64 0)).setCell ⟨w.heap.size,1,none⟩ (.int .i64 0)).cell? ⟨w.heap.size,1,none⟩=some (.int .i64 0):=World.cell?_setCell_same _ _ _ (by rw[World.cell?_setCell_other _ _ _ _ (by simp)];exact r1);clear HE;go_wp2_with fail;generalize (wc.setCell ⟨w.heap.size,0,none⟩ (.int .i64 0)).setCell ⟨w.heap.size,1,none⟩ (.int .i64 0)=w9 at *;exact bodyPost_ret (v:=.tuple #[.agg #[.int .i64 0,.int .i64 0],.int .i64 4]) (by simp[results,Tryz.results24,go_sem,k0,k1]) rfl HE1.out
   ·have H2:=HX.out.below HW2.out.2;have E2:=rStart_any h g act cx (.slice la ln lc) (.slice wa nw wc0) (.slice pa pn pc) wc H2.hb H2.bb H2.hc H2.hok (by have:=H2.hcl;omega);obtain⟨n9,hn9⟩:=gNz (startN (cx.map (·.c)));obtain⟨s9,hs9⟩:=gNz (startS act (cx.map (·.c)));have HNS:Hid (I64 n9∧I64 s9):=by
     have h1:=H2.nums;have h2:=startS_range act (cx.map (·.c)) (fun c hc=>(chk_few (H2.okc c hc)).2.2.2.2.1.2) 1 (by omega) (by omega);have h3:startS act (cx.map (·.c))=(cx.map (·.c)).foldl (fun s c=>if c.actor=act∧s≤c.seq then c.seq+1 else s) 1:=rfl;rw[←h3,hs9] at h2;rw[hn9] at h1;show I64 n9∧I64 s9;unfold I64;omega
    rw[hn9,hs9] at E2;clear H2 hn9 hs9;go_wp2_with fail;go_fit E2;rintro e w3 ⟨rfl,b3⟩;have HW3:Hid (w3.heap[w.heap.size]?=some (.cells #[.int .i64 0,.int .i64 0] 45)∧Below w.heap.size w w3∧Below w1.heap.size w1 w3):=⟨heap_below HW2.out.1 b3 lRf,HW2.out.2.trans (b3.mono HW2.out.2.size),HWC.out.trans (b3.mono HWC.out.size)⟩
    clear b3 E2 HW2 HWC hp0;have HCL:Hid (∀W,Below w3.heap.size w3 W→W.cell? ⟨h,0,none⟩=some (.int .i64 act)∧W.cell? ⟨h,1,none⟩=some (.pointer (some ⟨g,0,none⟩))∧W.cell? ⟨h,2,none⟩=some (.slice pa pn pc)):=fun W hW=>by
     have h0:=HX.out.below (HW3.out.2.1.trans (hW.mono HW3.out.2.1.size));exact⟨cLo h0.hb 0,cLo h0.hb 1,cLo h0.hb 2⟩
    go_upto_region 7 with fail
    refine rNh (fun W=>Below w3.heap.size w3 W) ((Below.refl _ _).drew) (fun hHeld=>?_);refine tkC 0 HCL rfl ?_;refine tkC 1 HCL rfl ?_;refine tkC 2 HCL rfl ?_;refine tkC 3 HCL rfl ?_;refine tkC 4 HCL rfl ?_;refine tkC 5 HCL rfl ?_;refine tkC 6 HCL rfl ?_;refine tkC 7 HCL rfl ?_;refine tkC 8 HCL rfl ?_;refine tkC 9 HCL rfl ?_;refine tkC 10 HCL rfl ?_;refine tkC 11 HCL rfl ?_;refine ts 12 rfl (fun K hK=>?_);go_simp;refine hK.out _ _ ((Below.refl w3.heap.size w3).drew.alloc lRf _) (fun hH2=>?_);clear hK K;try simp only[Act.put,nm]
    have HXB:Hid ((w3.alloc (.cells #[.int .i64 act,.int .i64 s9,.int .i64 n9,.slice ua on uc,.slice pa pn pc] 33)).drew.heap[w3.heap.size]?=some (.cells #[.int .i64 act,.int .i64 s9,.int .i64 n9,.slice ua on uc,.slice pa pn pc] 33)∧Below w3.heap.size w3 (w3.alloc (.cells #[.int .i64 act,.int .i64 s9,.int .i64 n9,.slice ua on uc,.slice pa pn pc] 33)).drew):=⟨heap_alloc_new w3 _,(bAl w3 _).drew⟩
    refine ts 13 rfl (fun K hK=>?_);go_simp;refine hK.out _ _ HXB.out.2 (fun hH3=>?_);clear hK K;try simp only[Act.put,nm]
    refine wDn ?_;clear hHeld hH2 hH3 HCL;generalize (w3.alloc (.cells #[.int .i64 act,.int .i64 s9,.int .i64 n9,.slice ua on uc,.slice pa pn pc] 33)).drew=w4 at *;have HB4:Hid (Below w.heap.size w w4∧Below w1.heap.size w1 w4∧w4.heap[w.heap.size]?=some (.cells #[.int .i64 0,.int .i64 0] 45)):=⟨HW3.out.2.1.trans (HXB.out.2.mono HW3.out.2.1.size),HW3.out.2.2.trans (HXB.out.2.mono HW3.out.2.2.size),heap_below HW3.out.1 HXB.out.2 lRf⟩
    obtain⟨cb,hcb⟩:=gNz (w3.heap.size);have HCB:Hid (w4.heap[cb]?=some (.cells #[.int .i64 act,.int .i64 s9,.int .i64 n9,.slice ua on uc,.slice pa pn pc] 33)∧w.heap.size<cb):=by
     rw[←hcb];exact⟨HXB.out.1,lt_of_heap HW3.out.1⟩
    rw[hcb];clear hcb HXB HW3;obtain⟨S',hS'⟩:∃S':Nat→Prop,S'=fun b=>b=g∨(Value.slice la ln lc).ownBlock=some b∨(Value.slice wa nw wc0).ownBlock=some b∨w4.heap.size≤b:=⟨_,rfl⟩
    obtain⟨T',hT'⟩:∃T':Nat→Prop,T'=fun b=>((∃y∈HS,y.live b)∧(Value.slice pa pn pc).ownBlock≠some b)∨w4.heap.size≤b∨b=w.heap.size∨lo.D b:=⟨_,rfl⟩
    have HST:Hid (S'=(fun b=>b=g∨(Value.slice la ln lc).ownBlock=some b∨(Value.slice wa nw wc0).ownBlock=some b∨w4.heap.size≤b)∧T'=fun b=>((∃y∈HS,y.live b)∧(Value.slice pa pn pc).ownBlock≠some b)∨w4.heap.size≤b∨b=w.heap.size∨lo.D b):=⟨hS',hT'⟩
    have hx:x∈HS:=List.mem_of_getElem? HH.out.2.1;have X:=HH.out.1.hand x hx;obtain⟨e1,e2,e3,e4,e5,e6,e7,e8,e9⟩:=HEQ.out;have rL:=X.rowL;have rW:=X.rowW;have rP:=X.rowP;have hne:=X.ne;have hbb:=X.bbox;have hbx:=X.box;rw[e4] at rL hne;rw[e5] at rW hne;rw[e6,e7] at rP;rw[e2,e4,e5] at hbb;rw[e1,e2,e3,e6] at hbx;have Bd:Below w.heap.size w w4.drew:=drew_of HB4.out.1;have lvx:∀b,b=h∨b=g∨(Value.slice la ln lc).ownBlock=some b∨(Value.slice wa nw wc0).ownBlock=some b∨(Value.slice pa pn pc).ownBlock=some b→x.live b:=fun b hb=>by
     unfold HR.live;rw[e1,e2,e4,e5,e6];exact hb
    have TLV:∀b,T' b→LV lo HS w b:=fun b hb=>by
     rw[hT'] at hb;rcases hb with⟨hb,_⟩ | hb | hb | hb
     ·exact Or.inl hb
     ·exact Or.inr (Or.inl (Nat.le_trans HB4.out.1.size hb))
     ·exact Or.inr (Or.inl (Nat.le_of_eq hb.symm))
     ·exact Or.inr (Or.inr hb)
    have ST:∀b,S' b→T' b:=fun b hb=>by
     rw[hS'] at hb;rw[hT'];rcases hb with hb | hb | hb | hb
     ·exact Or.inl ⟨⟨x,hx,lvx b (Or.inr (Or.inl hb))⟩,by rw[hb];exact own_ne_box rP hbb (by decide)⟩
     ·exact Or.inl ⟨⟨x,hx,lvx b (Or.inr (Or.inr (Or.inl hb)))⟩,own_types rL rP (by decide) hb⟩
     ·exact Or.inl ⟨⟨x,hx,lvx b (Or.inr (Or.inr (Or.inr (Or.inl hb))))⟩,own_types rW rP (by decide) hb⟩
     ·exact Or.inr (Or.inl hb)
    have hR:RB S' T' w4.drew g x.EL x.EW (.slice la ln lc) (.slice wa nw wc0) w4.drew:=by
     refine⟨ST,fun b hb=>by rw[hS'];exact Or.inr (Or.inr (Or.inr hb)),KpS.refl _ _,by rw[hS'];exact Or.inl rfl,heap_below hbb Bd lRf,own_below rL Bd lRf,own_below rW Bd lRf,fun b e=>by rw[hS'];exact Or.inr (Or.inl e),fun b e=>by rw[hS'];exact Or.inr (Or.inr (Or.inl e)),hne,fun p hp=>?_⟩;exact((HH.out.1.fz x hx p hp).kp (KpS.of Bd)).mono fun b _ hb=>TLV b hb
    have hv:FzC T' w4.drew (.agg #[.int .i64 act,.int .i64 s9,.int .i64 n9,.slice ua on uc,.slice pa pn pc]) ⟨act,s9,n9,O,P.map (·.1)⟩:=fun w2 k2=>by
     have kw:KpS (LV lo HS w) w w2:=(KpS.of Bd).trans (k2.mono fun b _ hb=>TLV b hb);have fq:∀q∈P,FzQ (LV lo HS w) w q:=fun q hq=>HH.out.1.fq x hx q (by rw[e7];exact hq);have hrow:RowO 0 (.slice pa pn pc) P w2:=own_stay rP fun b hb=>by
      have hlt:=(rP.lt b hb).2;have h1:w4.drew.heap[b]?=w.heap[b]?:=Bd.block b hlt;refine(k2.block b (Nat.lt_of_lt_of_le hlt Bd.size) (fun hT=>?_)).trans h1;rw[hT'] at hT;rcases hT with⟨_,hT⟩ | hT | hT | hT
      ·exact hT hb
      ·have:=HB4.out.1.size;omega
      ·omega
      ·exact HH.out.1.out x hx b (lvx b (Or.inr (Or.inr (Or.inr (Or.inr hb))))) hT
     refine⟨_,_,P,rfl,⟨?_,HNS.out.2,HNS.out.1⟩,pairs_stay HU.out.1 (fun b hb=>?_),RowO.ops hrow (by have:=HX.out.hpl;omega) (fun q hq=>⟨((fq q hq).2 w2 kw).1,(fq q hq).1⟩),rfl,HU.out.2.1,own_wh hrow,fun q hq=>((fq q hq).2 w2 kw).2⟩
     ·have:=HX.out.act;dsimp only;unfold I64;omega
     ·have hb2:=HU.out.2.2.1 b hb;have hs:=HW0.out.2.2;have h1:w4.heap[b]?=w1.heap[b]?:=HB4.out.2.1.block b hb2.2;refine(k2.block b (Nat.lt_of_lt_of_le hb2.2 HB4.out.2.1.size) (fun hT=>?_)).trans h1;rw[hT'] at hT;rcases hT with⟨⟨y,hy,hT⟩,_⟩ | hT | hT | hT
      ·have:=(HH.out.1.hand y hy).lt hT;omega
      ·have:=HB4.out.2.1.size;omega
      ·omega
      ·have:=HH.out.1.dl b hT;omega
    have ET:=rTake_any S' T' w4.drew g x.EL x.EW (.slice la ln lc) (.slice wa nw wc0) (.agg #[.int .i64 act,.int .i64 s9,.int .i64 n9,.slice ua on uc,.slice pa pn pc]) ⟨act,s9,n9,O,P.map (·.1)⟩ w4.drew hR X.ri hv;have HSO:Hid (∀b,(b=h∨w.heap.size≤b)→b<w4.heap.size→¬S' b):=fun b hb hlt hS=>by
     rw[hS'] at hS;have hgl:=lt_of_heap hbb;rcases hb with rfl | hb
     ·rcases hS with hS | hS | hS | hS
      ·exact cells_apart hbx hbb (by decide) hS
      ·exact own_ne_box rL hbx (by decide) hS
      ·exact own_ne_box rW hbx (by decide) hS
      ·omega
     ·rcases hS with hS | hS | hS | hS
      ·omega
      ·have:=(rL.lt b hS).2;omega
      ·have:=(rW.lt b hS).2;omega
      ·omega
    have HFIN:Hid (∀(t:Int) (w6:World),RTakeP S' T' w4.drew w4.drew g x.EL x.EW ⟨act,s9,n9,O,P.map (·.1)⟩ t w6→∀(W9:World) (vp9:Value) (P9:List OV),KpS (fun b=>b=h∨b=w.heap.size∨w6.heap.size≤b) w6 W9→W9.heap[h]?=some (.cells #[.int .i64 act,.pointer (some ⟨g,0,none⟩),vp9] 68)→((t≠0∧vp9=.slice pa pn pc∧P9=P)∨(vp9=.slice none 0 0∧P9=[]))→StepP lo HS i x w W9):=by
     intro t w6 hT W9 vp9 P9 K9 hb9 hP9;obtain⟨EL',EW',vl',vw',R',I',⟨TR,ER⟩,K6,hsame⟩:=hT;have h6h:w6.heap[h]?=some (.cells #[.int .i64 act,.pointer (some ⟨g,0,none⟩),.slice pa pn pc] 68):=(K6.block h (Nat.lt_of_lt_of_le (lt_of_heap hbx) Bd.size) (HSO.out h (Or.inl rfl) (Nat.lt_of_lt_of_le (lt_of_heap hbx) Bd.size))).trans (heap_below hbx Bd lRf);have h6r:w6.heap[w.heap.size]?=some (.cells #[.int .i64 0,.int .i64 0] 45):=(K6.block _ (lt_of_heap HB4.out.2.2) (HSO.out _ (Or.inr lRf) (lt_of_heap HB4.out.2.2))).trans HB4.out.2.2;have SX:∀b,S' b→x.live b∨w.heap.size≤b:=fun b hb=>by
      rw[hS'] at hb;rcases hb with hb | hb | hb | hb
      ·exact Or.inl (lvx b (Or.inr (Or.inl hb)))
      ·exact Or.inl (lvx b (Or.inr (Or.inr (Or.inl hb))))
      ·exact Or.inl (lvx b (Or.inr (Or.inr (Or.inr (Or.inl hb)))))
      ·exact Or.inr (Nat.le_trans HB4.out.1.size hb)
     have K:KpS (fun b=>x.live b∨w.heap.size≤b) w W9:=((KpS.of Bd).trans (K6.mono fun b _ hb=>SX b hb)).trans (K9.mono fun b _ hb=>by
      rcases hb with rfl | hb | hb
      ·exact Or.inl (lvx _ (Or.inl rfl))
      ·exact Or.inr (Nat.le_of_eq hb.symm)
      ·exact Or.inr (Nat.le_trans (Nat.le_trans Bd.size K6.size) hb))
     have hl:∀b,(x.turn EL' EW' vl' vw' vp9 P9).live b→x.live b∨w.heap.size≤b:=fun b hb=>by
      rcases hb with hb | hb | hb | hb | hb
      ·exact Or.inl (Or.inl hb)
      ·exact Or.inl (Or.inr (Or.inl hb))
      ·exact SX b (R'.sl b hb)
      ·exact SX b (R'.sw b hb)
      ·rcases hP9 with⟨_,e,_⟩ | ⟨e,_⟩
       ·rw[show(x.turn EL' EW' vl' vw' vp9 P9).vp=vp9 from rfl,e] at hb;exact Or.inl (lvx b (Or.inr (Or.inr (Or.inr (Or.inr hb)))))
       ·rw[show(x.turn EL' EW' vl' vw' vp9 P9).vp=vp9 from rfl,e] at hb;cases hb
     rw[←e2] at R';refine take_step (P9:=P9) HH.out.1 HH.out.2.1 HH.out.2.2 R' I' TR SX K (by rw[e1,e2,e3];exact hb9) (fun b hb=>?_) ?_ (fun p hp=>?_)
     ·have hlt:b<w6.heap.size:=by
       rcases hb with rfl | hb | hb
       ·exact lt_of_heap R'.box
       ·exact(R'.rowL.lt b hb).2
       ·exact(R'.rowW.lt b hb).2
      refine K9.block b hlt (fun hS=>?_);rcases hS with rfl | rfl | hS
      ·rcases hb with hb | hb | hb
       ·exact cells_apart h6h R'.box (by decide) hb
       ·exact own_ne_box R'.rowL h6h (by decide) hb
       ·exact own_ne_box R'.rowW h6h (by decide) hb
      ·rcases hb with hb | hb | hb
       ·exact cells_apart h6r R'.box (by decide) hb
       ·exact own_ne_box R'.rowL h6r (by decide) hb
       ·exact own_ne_box R'.rowW h6r (by decide) hb
      ·omega
     ·rcases hP9 with⟨ht,rfl,rfl⟩ | ⟨rfl,rfl⟩
      ·refine Or.inl ⟨e6.symm,e7.symm,?_,Or.inl (by rw[(hsame ht).1])⟩;rw[e6,e7];refine own_stay rP fun b hb=>?_;have hlt:=(rP.lt b hb).2;have hnS:¬S' b:=fun hS=>by
        rw[hS'] at hS;rcases hS with hS | hS | hS | hS
        ·rw[hS] at hb;exact own_ne_box rP hbb (by decide) hb
        ·exact own_types rP rL (by decide) hb hS
        ·exact own_types rP rW (by decide) hb hS
        ·have:=HB4.out.1.size;omega
       have h1:w4.drew.heap[b]?=w.heap[b]?:=Bd.block b hlt;have h2:=K6.block b (Nat.lt_of_lt_of_le hlt Bd.size) hnS;refine((K9.block b (Nat.lt_of_lt_of_le hlt (Nat.le_trans Bd.size K6.size)) (fun hS=>?_)).trans h2).trans h1;rcases hS with hS | hS | hS
       ·rw[hS] at hb;exact own_ne_box rP hbx (by decide) hb
       ·omega
       ·have:=K6.size;have:=Bd.size;omega
      ·exact Or.inr ⟨rfl,rfl⟩
     ·rcases hP9 with⟨ht,rfl,rfl⟩ | ⟨rfl,rfl⟩
      ·obtain⟨rfl,rfl⟩:=hsame ht;exact(HH.out.1.old HH.out.2.1 K hl).1 x hx p hp
      ·have K9T:KpS T' w4.drew W9:=(K6.mono fun b _ hb=>ST b hb).trans (K9.mono fun b _ hb=>by
        rw[hT'];rcases hb with rfl | hb | hb
        ·exact Or.inl ⟨⟨x,hx,lvx _ (Or.inl rfl)⟩,own_ne_box rP hbx (by decide)⟩
        ·exact Or.inr (Or.inr (Or.inl hb))
        ·exact Or.inr (Or.inl (Nat.le_trans K6.size hb)))
       refine((R'.chgs p hp).kp K9T).mono fun b _ hb=>?_;rcases hb with⟨y,hy,hb⟩ | hb | hb
       ·obtain⟨j,hj⟩:=List.mem_iff_getElem?.1 hy;by_cases hji:j=i
        ·subst hji;rw[List.getElem?_set_self (List.getElem?_eq_some_iff.1 HH.out.2.1).1] at hj;obtain rfl:=(Option.some.inj hj).symm;rcases hb with hb | hb | hb | hb | hb
         ·have hb:b=h:=hb.trans e1;subst hb;rw[hT'];exact Or.inl ⟨⟨x,hx,lvx _ (Or.inl rfl)⟩,own_ne_box rP hbx (by decide)⟩
         ·have hb:b=g:=hb.trans e2;exact ST b (by rw[hS'];exact Or.inl hb)
         ·exact ST b (R'.sl b hb)
         ·exact ST b (R'.sw b hb)
         ·cases hb
        ·rw[List.getElem?_set_ne (fun e=>hji e.symm)] at hj;have hap:=HH.out.1.apart hj HH.out.2.1 hji b hb;rw[hT'];exact Or.inl ⟨⟨y,List.mem_of_getElem? hj,hb⟩,fun e=>hap (lvx b (Or.inr (Or.inr (Or.inr (Or.inr e)))))⟩
       ·rw[hT'];exact Or.inr (Or.inl (Nat.le_trans (Nat.le_trans (show w4.heap.size≤w4.drew.heap.size from lRf) K6.size) (Nat.le_trans K9.size hb)))
       ·rw[hT'];exact Or.inr (Or.inr (Or.inr hb))
    have HCC:Hid (∀W:World,W.heap[h]?=w4.heap[h]?→W.heap[cb]?=w4.heap[cb]?→W.cell? ⟨h,1,none⟩=some (.pointer (some ⟨g,0,none⟩))∧W.cell? ⟨cb,0,none⟩=some (.int .i64 act)∧W.cell? ⟨cb,1,none⟩=some (.int .i64 s9)∧W.cell? ⟨cb,2,none⟩=some (.int .i64 n9)∧W.cell? ⟨cb,3,none⟩=some (.slice ua on uc)∧W.cell? ⟨cb,4,none⟩=some (.slice pa pn pc)):=fun W k1 k2=>by
     have b1:=k1.trans (heap_below hbx HB4.out.1 lRf);have b2:=k2.trans HCB.out.1;exact⟨cLo b1 1,cLo b2 0,cLo b2 1,cLo b2 2,cLo b2 3,cLo b2 4⟩
    have HH6:Hid (∀(t:Int) (w6:World),RTakeP S' T' w4.drew w4.drew g x.EL x.EW ⟨act,s9,n9,O,P.map (·.1)⟩ t w6→w6.heap[h]?=some (.cells #[.int .i64 act,.pointer (some ⟨g,0,none⟩),.slice pa pn pc] 68)∧w6.heap[w.heap.size]?=some (.cells #[.int .i64 0,.int .i64 0] 45)∧w6.heap[cb]?=some (.cells #[.int .i64 act,.int .i64 s9,.int .i64 n9,.slice ua on uc,.slice pa pn pc] 33)∧w.heap.size<w6.heap.size):=fun t w6 hT=>by
     obtain⟨EL',EW',vl',vw',R',I',_,K6,_⟩:=hT;have hl1:=Nat.lt_of_lt_of_le (lt_of_heap hbx) HB4.out.1.size;exact⟨(K6.block h hl1 (HSO.out h (Or.inl rfl) hl1)).trans (heap_below hbx Bd lRf),(K6.block _ (lt_of_heap HB4.out.2.2) (HSO.out _ (Or.inr lRf) (lt_of_heap HB4.out.2.2))).trans HB4.out.2.2,(K6.block _ (lt_of_heap HCB.out.1) (HSO.out _ (Or.inr (Nat.le_of_lt HCB.out.2)) (lt_of_heap HCB.out.1))).trans HCB.out.1,Nat.lt_of_lt_of_le (lt_of_heap HB4.out.2.2) K6.size⟩
    have HHR:Hid (h<w.heap.size∧h≠w.heap.size):=⟨lt_of_heap hbx,Nat.ne_of_lt (lt_of_heap hbx)⟩
    clear hS' hT' hx X e1 e2 e3 e4 e5 e6 e7 e8 e9 rL rW rP hne hbb hbx Bd lvx TLV ST hR hv;go_upto_region 8 with fail
    refine rNh (fun W=>W.heap[h]?=w4.heap[h]?∧W.heap[cb]?=w4.heap[cb]?) (⟨rfl,rfl⟩) (fun hHeld=>?_);refine tk 0 rfl ?_ (by intro wz hSw;obtain⟨z0,z1,z2,z3,z4,z5⟩:=HCC.out wz hSw.1 hSw.2;go_simp;try with_reducible rfl);refine tk 1 rfl ?_ (by intro wz hSw;obtain⟨z0,z1,z2,z3,z4,z5⟩:=HCC.out wz hSw.1 hSw.2;go_simp;try with_reducible rfl);refine tk 2 rfl ?_ (by intro wz hSw;obtain⟨z0,z1,z2,z3,z4,z5⟩:=HCC.out wz hSw.1 hSw.2;go_simp;try with_reducible rfl);refine tk 3 rfl ?_ (by intro wz hSw;obtain⟨z0,z1,z2,z3,z4,z5⟩:=HCC.out wz hSw.1 hSw.2;go_simp;try with_reducible rfl);refine tk 4 rfl ?_ (by intro wz hSw;obtain⟨z0,z1,z2,z3,z4,z5⟩:=HCC.out wz hSw.1 hSw.2;go_simp;try with_reducible rfl);refine ts 5 rfl (fun K hK=>?_);go_simp;go_at_call 28
    refine Calls.mono ET ?_;rintro e w6 ⟨t,rfl,hT⟩;have HT6:Hid (RTakeP S' T' w4.drew w4.drew g x.EL x.EW ⟨act,s9,n9,O,P.map (·.1)⟩ t w6):=hT;clear hT;have h66:=HH6.out t w6 HT6.out;go_wp2_with fail;refine hK.out _ _ (⟨h66.1.trans (heap_below HX.out.hb HB4.out.1 lRf).symm,h66.2.2.1.trans HCB.out.1.symm⟩) (fun hH5=>?_);clear hK K ET;try simp only[Act.put,nm]
    refine tk 6 rfl ?_;refine wDn ?_;have H66:Hid (_∧_):=h66;clear hHeld hH5 h66;by_cases ht:t=0
    ·subst ht;obtain⟨-,-,n2,-⟩:=cLs H66.out.1;have nf:=fRz H66.out.1 2;have hch:cb≠h:=cells_apart H66.out.2.2.1 H66.out.1 (by decide);have h7c:(w6.setCell ⟨h,2,none⟩ (.slice none 0 0)).heap[cb]?=some (.cells #[.int .i64 act,.int .i64 s9,.int .i64 n9,.slice ua on uc,.slice pa pn pc] 33):=heap_set_other H66.out.2.2.1 hch;have h7r:(w6.setCell ⟨h,2,none⟩ (.slice none 0 0)).heap[w.heap.size]?=some (.cells #[.int .i64 0,.int .i64 0] 45):=heap_set_other H66.out.2.1 HHR.out.2.symm;have h7h:(w6.setCell ⟨h,2,none⟩ (.slice none 0 0)).heap[h]?=some (.cells #[.int .i64 act,.pointer (some ⟨g,0,none⟩),.slice none 0 0] 68):=by rw[set_at H66.out.1 2 _];rfl
     have K7:KpS (fun b=>b=h∨b=w.heap.size∨w6.heap.size≤b) w6 (w6.setCell ⟨h,2,none⟩ (.slice none 0 0)):=KpS.set _ (Or.inl rfl);have H7:Hid ((w6.setCell ⟨h,2,none⟩ (.slice none 0 0)).heap[cb]?=some (.cells #[.int .i64 act,.int .i64 s9,.int .i64 n9,.slice ua on uc,.slice pa pn pc] 33)∧(w6.setCell ⟨h,2,none⟩ (.slice none 0 0)).heap[w.heap.size]?=some (.cells #[.int .i64 0,.int .i64 0] 45)∧(w6.setCell ⟨h,2,none⟩ (.slice none 0 0)).heap[h]?=some (.cells #[.int .i64 act,.pointer (some ⟨g,0,none⟩),.slice none 0 0] 68)∧KpS (fun b=>b=h∨b=w.heap.size∨w6.heap.size≤b) w6 (w6.setCell ⟨h,2,none⟩ (.slice none 0 0))):=⟨h7c,h7r,h7h,K7⟩
     clear hch h7c h7r h7h K7;go_upto_region 12 with fail
     clear n2 nf;generalize w6.setCell ⟨h,2,none⟩ (.slice none 0 0)=w7 at *;obtain⟨c0,c1,c2,c3,c4,-⟩:=cLs H7.out.1;have ER:=rRefC_any act s9 n9 ua on uc pa pn pc w7;unfold refV at ER;go_wp2_with fail;go_fit ER;rintro e w8 ⟨rfl,b8⟩;clear c0 c1 c2 c3 c4 ER;have h8r:=heap_below H7.out.2.1 b8 lRf;have h8h:=heap_below H7.out.2.2.1 b8 lRf;have hE:=HFIN.out 0 w6 HT6.out ((w8.setCell ⟨w.heap.size,0,none⟩ (.int .i64 act)).setCell ⟨w.heap.size,1,none⟩ (.int .i64 s9)) (.slice none 0 0) [] (((H7.out.2.2.2.trans ((KpS.of b8).mono fun b _ hb=>hb)).trans (KpS.set (g:=w.heap.size) (i:=0) (.int .i64 act) (Or.inr (Or.inl rfl)))).trans (KpS.set (g:=w.heap.size) (i:=1) (.int .i64 s9) (Or.inr (Or.inl rfl)))) (heap_set_other (heap_set_other h8h HHR.out.2) HHR.out.2) (Or.inr ⟨rfl,rfl⟩);have HE1:Hid (post (.returned (.tuple #[.agg #[.int .i64 act,.int .i64 s9],.int .i64 0])) ((w8.setCell ⟨w.heap.size,0,none⟩ (.int .i64 act)).setCell ⟨w.heap.size,1,none⟩ (.int .i64 s9))):=by
      show post _ _;rw[HPO.out];exact⟨_,_,_,rfl,hE⟩
     obtain⟨r0,r1,-⟩:=cLs h8r;have rf:=fRz h8r 0;have rf1:=fRz h8r 1;have k0:((w8.setCell ⟨w.heap.size,0,none⟩ (.int .i64 act)).setCell ⟨w.heap.size,1,none⟩ (.int .i64 s9)).cell? ⟨w.heap.size,0,none⟩=some (.int .i64 act):=by rw[World.cell?_setCell_other _ _ _ _ (by simp)];exact World.cell?_setCell_same _ _ _ r0
     have k1:((w8.setCell ⟨w.heap.size,0,none⟩ (.int .i64 act)).setCell ⟨w.heap.size,1,none⟩ (.int .i64 s9)).cell? ⟨w.heap.size,1,none⟩=some (.int .i64 s9):=World.cell?_setCell_same _ _ _ (by rw[World.cell?_setCell_other _ _ _ _ (by simp)];exact r1);clear hE h8r h8h b8;go_wp2_with fail;generalize (w8.setCell ⟨w.heap.size,0,none⟩ (.int .i64 act)).setCell ⟨w.heap.size,1,none⟩ (.int .i64 s9)=w9 at *;exact bodyPost_ret (v:=.tuple #[.agg #[.int .i64 act,.int .i64 s9],.int .i64 0]) (by simp[results,Tryz.results24,go_sem,k0,k1]) rfl HE1.out
    ·have hd:(t !=0)=true:=by simpa using ht
     obtain⟨r0,r1,-⟩:=cLs H66.out.2.1;have rf:=fRz H66.out.2.1 0;have rf1:=fRz H66.out.2.1 1;have hE:=HFIN.out t w6 HT6.out ((w6.setCell ⟨w.heap.size,0,none⟩ (.int .i64 0)).setCell ⟨w.heap.size,1,none⟩ (.int .i64 0)) (.slice pa pn pc) P ((KpS.set (g:=w.heap.size) (i:=0) (.int .i64 0) (Or.inr (Or.inl rfl))).trans (KpS.set (g:=w.heap.size) (i:=1) (.int .i64 0) (Or.inr (Or.inl rfl)))) (heap_set_other (heap_set_other H66.out.1 HHR.out.2) HHR.out.2) (Or.inl ⟨ht,rfl,rfl⟩);have HE1:Hid (post (.returned (.tuple #[.agg #[.int .i64 0,.int .i64 0],.int .i64 t])) ((w6.setCell ⟨w.heap.size,0,none⟩ (.int .i64 0)).setCell ⟨w.heap.size,1,none⟩ (.int .i64 0))):=by
      show post _ _;rw[HPO.out];exact⟨_,_,_,rfl,hE⟩
     have k0:((w6.setCell ⟨w.heap.size,0,none⟩ (.int .i64 0)).setCell ⟨w.heap.size,1,none⟩ (.int .i64 0)).cell? ⟨w.heap.size,0,none⟩=some (.int .i64 0):=by rw[World.cell?_setCell_other _ _ _ _ (by simp)];exact World.cell?_setCell_same _ _ _ r0
     have k1:((w6.setCell ⟨w.heap.size,0,none⟩ (.int .i64 0)).setCell ⟨w.heap.size,1,none⟩ (.int .i64 0)).cell? ⟨w.heap.size,1,none⟩=some (.int .i64 0):=World.cell?_setCell_same _ _ _ (by rw[World.cell?_setCell_other _ _ _ _ (by simp)];exact r1);clear hE ht;go_wp2_with fail;generalize (w6.setCell ⟨w.heap.size,0,none⟩ (.int .i64 0)).setCell ⟨w.heap.size,1,none⟩ (.int .i64 0)=w9 at *;exact bodyPost_ret (v:=.tuple #[.agg #[.int .i64 0,.int .i64 0],.int .i64 t]) (by simp[results,Tryz.results24,go_sem,k0,k1]) rfl HE1.out
end Go.Proofs.YtamhlgflbacjgaaGreat
