/-
  What is proved: as each theorem says.
  Conditions: as each theorem says.
-/
import Derived.Test.YtamhlgflbacjgaaGreatF00
import Derived.Test.YtamhlgflbacjgaaGreatF14
import Derived.Test.YtamhlgflbacjgaaGreatF37
import Derived.Test.YtamhlgflbacjgaaGreatF38
set_option maxRecDepth 100000
set_option maxHeartbeats 16000000
namespace Go.Proofs.YtamhlgflbacjgaaGreat
open Go.RowKit Go.Sort
def refsS (L:List Chg):List Pr:=L.foldl (fun m c=>putS m c.ref) []
theorem refsS_snoc (L:List Chg) (c:Chg):refsS (L++[c])=putS (refsS L) c.ref:=by unfold refsS;rw[List.foldl_append];rfl
theorem refsS_facts (L:List Chg):Rise (refsS L)∧(∀x,x∈refsS L↔x∈refsOf L)∧(refsS L).length≤L.length:=by
 have key:∀(L:List Chg) (m:List Pr),Rise m→Rise (L.foldl (fun m c=>putS m c.ref) m)∧(∀x,x∈L.foldl (fun m c=>putS m c.ref) m↔x∈m∨x∈refsOf L)∧(L.foldl (fun m c=>putS m c.ref) m).length≤m.length+L.length:=by
  intro L
  induction L with
  | nil=>intro m h;exact⟨h,fun x=>by simp[refsOf],by simp⟩
  | cons c L ih=>
   intro m h;rw[List.foldl_cons];obtain⟨h1,h2,h3⟩:=ih (putS m c.ref) (rise_putS h);refine⟨h1,fun x=>?_,?_⟩
   ·rw[h2 x,mem_putS];unfold refsOf;rw[List.map_cons,List.mem_cons];constructor
    ·rintro((h | h) | h)
     ·exact Or.inr (Or.inl h)
     ·exact Or.inl h
     ·exact Or.inr (Or.inr h)
    ·rintro(h | h | h)
     ·exact Or.inl (Or.inr h)
     ·exact Or.inl (Or.inl h)
     ·exact Or.inr h
   ·have:=putS_len m c.ref;rw[List.length_cons];omega
 obtain⟨h1,h2,h3⟩:=key L [] List.Pairwise.nil;exact⟨h1,fun x=>(h2 x).trans ⟨fun h=>h.elim (fun h=>by cases h) id,Or.inr⟩,by unfold refsS;simpa using h3⟩
theorem rRefs_any (v:Value) (l:List CX) (w:World) (hv:IsChgs w v l) (hl:l.length≤1000):
 Calls Tryz.prog 14 #[v] w fun e w'=>(∃u,e=.returned u∧IsPairs w' u (refsS (l.map (·.c)))∧Wh u)∧Below w.heap.size w w':=by
 obtain⟨la,ln,lc,rfl⟩:∃a n c,v=.slice a n c:=by obtain⟨a,c,e,_⟩:=hv;exact⟨_,_,_,e⟩
 obtain⟨HLN⟩:Nonempty (Hid (ln=l.length)):=⟨by obtain⟨a,c,e,_⟩:=hv;exact(Value.slice.inj e).2.1⟩
 have HV:=hY2 hv hl;clear hv hl;go_enter Tryz.func14,Tryz.ntmps14
 go_wp2_with fail;go_loopw [3,4] (fun xo xi wr=>∃(i:Nat) (vo:Value),i≤l.length∧xi=.int .i64 i∧vo=xo∧Hid (IsPairs wr vo (refsS ((l.take i).map (·.c)))∧Wh vo∧Below w.heap.size w wr)) (fun _ xi _=>l.length - (RowKit.intOf xi).toNat)
 case atStart=>exact⟨0,_,Nat.zero_le _,rfl,rfl,isPairs_nil _ _ _,Or.inl rfl,Below.refl _ _⟩
 case round=>
  obtain⟨i,vo,hi,rfl,rfl,hR⟩:=hrel;by_cases hlt:i<l.length
  ·obtain⟨a',c',e9,_,_,hIn,h4⟩:=id HV.out.1;obtain⟨cb,co,ha',h5,h6⟩:=h4 (fun e=>by rw[e] at hlt;simp at hlt);have hla:la=some ⟨cb,co,none⟩:=(Value.slice.inj e9).1.trans ha';obtain⟨x,hx⟩:=gNz (l[i]:CX);obtain⟨⟨i1,i2,_⟩,dd,dn,dc,uo,um,ue,eud,euo⟩:=CX.form (hIn x (by rw[←hx];exact List.getElem_mem hlt));obtain⟨ca,hca⟩:=gNz (x.c.actor:Int);obtain⟨cs,hcs⟩:=gNz (x.c.seq:Int);obtain⟨ct,hct⟩:=gNz (x.c.start:Int);have hc:∀j,j<5→wr.cell? ⟨cb,co+i*5+j,none⟩=x.cells[j]?:=fun j hj=>by rw[hR.out.2.2.cell (p:=⟨cb,co+i*5+j,none⟩) h5,←hx];exact h6 i hlt j hj
   have x0:wr.cell? ⟨cb,co+i*5,none⟩=some (.int .i64 ca):=by rw[←hca];exact hc 0 (by omega)
   have x1:wr.cell? ⟨cb,co+i*5+1,none⟩=some (.int .i64 cs):=by rw[←hcs];exact hc 1 (by omega)
   have x2:wr.cell? ⟨cb,co+i*5+2,none⟩=some (.int .i64 ct):=by rw[←hct];exact hc 2 (by omega)
   have x3:wr.cell? ⟨cb,co+i*5+3,none⟩=some (.slice dd dn dc):=by rw[←eud];exact hc 3 (by omega)
   have x4:wr.cell? ⟨cb,co+i*5+4,none⟩=some (.slice uo um ue):=by rw[←euo];exact hc 4 (by omega)
   have HX:Hid ((∃h:i<l.length,l[i]=x)∧x.c.ref=(ca,cs)∧R64 (ca,cs)):=⟨⟨hlt,hx⟩,by unfold Chg.ref;rw[hca,hcs],by rw[←hca];exact i1,by rw[←hcs];exact i2⟩
   subst hla;have g1:(i:Int)<ln:=by have:=HLN.out;omega
   have g3:(0:Int)≤i:=by omega
   have E1:=rRefC_any ca cs ct dd dn dc uo um ue wr;have HR:Hid (IsPairs wr vo (refsS ((l.take i).map (·.c)))∧Wh vo∧Below w.heap.size w wr):=hR;clear e9 hIn h4 ha' h5 h6 hx eud euo hca hcs hct hi hlt hR hc i1 i2;go_wp2_with fail;go_fit E1;rintro e w1 ⟨rfl,b1⟩;clear E1 x0 x1 x2 x3 x4;have E2:=rPutR_any vo _ (ca,cs) w1 (HR.out.1.below b1) HR.out.2.1 HX.out.2.2 (by
    have h1:=(refsS_facts ((l.take i).map (·.c))).2.2;rw[List.length_map,List.length_take] at h1;have:=HV.out.2;omega)
   have HB1:Hid (Below w.heap.size w w1):=HR.out.2.2.trans (b1.mono HR.out.2.2.size);unfold refV at E2;clear b1 g1 g3;go_wp2_with fail;refine Calls.mono E2 ?_;rintro e w2 ⟨⟨u,rfl,h1,h2,_⟩,b2⟩;clear E2;have HN:Hid (IsPairs w2 u (refsS ((l.take (i+1)).map (·.c)))∧Wh u∧Below w.heap.size w w2):=by
    obtain⟨⟨h,e⟩,er,_⟩:=HX.out;refine⟨?_,h2,HB1.out.trans (b2.mono HB1.out.size)⟩;rw[List.take_succ_eq_append_getElem h,List.map_append,List.map_cons,List.map_nil,refsS_snoc,e,er];exact h1
   clear h1 h2 b2;have g2:(i:Int)<1000:=by obtain⟨⟨h,_⟩,_⟩:=HX.out;have:=HV.out.2;omega
   go_wp2;go_roundw
   case rel=>obtain⟨⟨h,_⟩,_⟩:=HX.out;exact⟨i+1,u,h,by go_num,rfl,HN.out⟩
   case measure=>obtain⟨⟨h,_⟩,_⟩:=HX.out;simp[RowKit.intOf];omega
  ·have hme:¬(i:Int)<ln:=by have:=HLN.out;omega
   have HE:Hid (IsPairs wr vo (refsS (l.map (·.c)))∧Wh vo∧Below w.heap.size w wr):=by
    have:=hR.out;rw[List.take_of_length_le (by omega)] at this;exact this
   clear hlt hi hR;go_wp2;go_ret;exact⟨⟨_,rfl,HE.out.1,HE.out.2.1⟩,HE.out.2.2⟩
def MergeP (lo:Lo) (HS:List HR) (i:Nat) (x:HR) (w:World) (e:Ending) (w':World):Prop:=∃r t,e=.returned (.tuple #[.int .i64 r,.int .i64 t])∧StepP lo HS i x w w'
structure MG (lo:Lo) (HS:List HR) (i:Nat) (x:HR) (es:List CE) (lv:Value) (w:World) (x':HR) (wr:World):Prop where
 hands:Hands lo (HS.set i x') wr
 same:Same x x'
 ok:HOk x'
 kp:KpS (fun b=>x.live b∨w.heap.size≤b) w wr
 nil:x'.P=[]
 fz:∀p∈es,FzC (LV lo (HS.set i x') wr) wr p.2 p.1
 row:RowC w.heap.size lv (es.map (·.2)) wr
 live:∀b,x'.live b→x.live b∨w.heap.size≤b
 apart:∀b,lv.ownBlock=some b→¬x'.live b
theorem MG.next {lo:Lo} {HS:List HR} {i:Nat} {x x':HR} {es:List CE} {lv:Value} {w wr w':World} (M:MG lo HS i x es lv w x' wr) (b:Below wr.heap.size wr w'):MG lo HS i x es lv w x' w':=
 ⟨M.hands.below b,M.same,M.ok,M.kp.trans ((KpS.of b).mono fun _ _ hk=>Or.inr (Nat.le_trans M.kp.size hk)),M.nil,fun p hp=>((M.fz p hp).below b).mono fun _ _ h=>h.imp id fun h=>h.imp (fun h=>Nat.le_trans b.size h) id,own_below M.row b lRf,M.live,M.apart⟩
theorem MG.take {lo:Lo} {HS:List HR} {i:Nat} {x x':HR} {es:List CE} {lv:Value} {w wd w6:World} (M:MG lo HS i x es lv w x' wd) (hi:HS[i]?=some x) {c:Chg} {t:Int} {S':Nat→Prop} (hS:S'=fun b=>b=x'.g∨x'.vl.ownBlock=some b∨x'.vw.ownBlock=some b∨wd.heap.size≤b)
 (hT:RTakeP S' (LV lo (HS.set i x') wd) wd wd x'.g x'.EL x'.EW c t w6):∃x'',MG lo HS i x es lv w x'' w6:=by
 obtain⟨EL',EW',vl',vw',R',I',⟨TR,ER⟩,K6,hsame⟩:=hT;have hil:=(List.getElem?_eq_some_iff.1 hi).1;have hi':(HS.set i x')[i]?=some x':=List.getElem?_set_self hil;have hx':x'∈HS.set i x':=List.mem_of_getElem? hi';have X:=M.hands.hand x' hx';have SX:∀b,S' b→x'.live b∨wd.heap.size≤b:=fun b hb=>by
  rw[hS] at hb;rcases hb with hb | hb | hb | hb
  ·exact Or.inl (Or.inr (Or.inl hb))
  ·exact Or.inl (Or.inr (Or.inr (Or.inl hb)))
  ·exact Or.inl (Or.inr (Or.inr (Or.inr (Or.inl hb))))
  ·exact Or.inr hb
 have hnh:¬S' x'.h:=fun h=>by
  rw[hS] at h;rcases h with h | h | h | h
  ·exact cells_apart X.box X.bbox (by decide) h
  ·exact own_ne_box X.rowL X.box (by decide) h
  ·exact own_ne_box X.rowW X.box (by decide) h
  ·have:=lt_of_heap X.box;omega
 have K:KpS (fun b=>x'.live b∨wd.heap.size≤b) wd w6:=K6.mono fun b _ hb=>SX b hb;have hbox:w6.heap[x'.h]?=some (.cells #[.int .i64 x'.act,.pointer (some ⟨x'.g,0,none⟩),x'.vp] 68):=(K6.block _ (lt_of_heap X.box) hnh).trans X.box;have hl:∀b,(x'.turn EL' EW' vl' vw' x'.vp x'.P).live b→x'.live b∨wd.heap.size≤b:=fun b hb=>by
  rcases hb with hb | hb | hb | hb | hb
  ·exact Or.inl (Or.inl hb)
  ·exact Or.inl (Or.inr (Or.inl hb))
  ·exact SX b (R'.sl b hb)
  ·exact SX b (R'.sw b hb)
  ·exact Or.inl (Or.inr (Or.inr (Or.inr (Or.inr hb))))
 have TL:∀b,LV lo ((HS.set i x').set i (x'.turn EL' EW' vl' vw' x'.vp x'.P)) w6 b→LV lo (HS.set i x') wd b:=fun b hb=>LV.next hi' K6.size hl hb;have frz:∀{v:Value} {d:Chg},FzC (LV lo (HS.set i x') wd) wd v d→FzC (LV lo ((HS.set i x').set i (x'.turn EL' EW' vl' vw' x'.vp x'.P)) w6) w6 v d:=fun {v d} h=>(h.kp (K6.mono fun b _ hb=>R'.st b hb)).mono fun b _ hb=>TL b hb;obtain⟨h1,h2,_⟩:=take_stepX (vp9:=x'.vp) (P9:=x'.P) M.hands hi' M.ok R' I' TR SX K hbox (fun _ _=>rfl) (Or.inl ⟨rfl,rfl,own_stay X.rowP fun b hb=>K6.block b (X.rowP.lt b hb).2 (fun h=>by
  rw[hS] at h;rcases h with h | h | h | h
  ·exact own_ne_box X.rowP X.bbox (by decide) (h▸hb)
  ·exact own_types X.rowP X.rowL (by decide) hb h
  ·exact own_types X.rowP X.rowW (by decide) hb h
  ·have:=(X.rowP.lt b hb).2;omega),Or.inr M.nil⟩) (fun p hp=>((R'.chgs p hp).kp (K6.mono fun b _ hb=>R'.st b hb)).mono fun b _ hb=>TL b hb)
 rw[List.set_set] at h1 frz;have hwd:w.heap.size≤wd.heap.size:=M.kp.size;refine⟨_,h1,⟨M.same.h,M.same.g,M.same.act⟩,h2,M.kp.trans (K.mono fun b _ hb=>?_),M.nil,fun p hp=>frz (M.fz p hp),own_stay M.row fun b hb=>K6.block b (M.row.lt b hb).2 (fun h=>?_),fun b hb=>?_,fun b hb hlive=>?_⟩
 ·rcases hb with hb | hb
  ·exact M.live b hb
  ·exact Or.inr (Nat.le_trans hwd hb)
 ·rcases SX b h with h | h
  ·exact M.apart b hb h
  ·have:=(M.row.lt b hb).2;omega
 ·rcases hl b hb with h | h
  ·exact M.live b h
  ·exact Or.inr (Nat.le_trans hwd h)
 ·rcases hl b hlive with h | h
  ·exact M.apart b hb h
  ·have:=(M.row.lt b hb).2;omega
theorem MG.ready {lo:Lo} {HS:List HR} {i:Nat} {x x':HR} {es:List CE} {lv:Value} {w wd:World} (M:MG lo HS i x es lv w x' wd) (hi:HS[i]?=some x):
 RB (fun b=>b=x'.g∨x'.vl.ownBlock=some b∨x'.vw.ownBlock=some b∨wd.heap.size≤b) (LV lo (HS.set i x') wd) wd x'.g x'.EL x'.EW x'.vl x'.vw wd∧RI (chgsOf x'.EL) (chgsOf x'.EW):=by
 have hx':x'∈HS.set i x':=List.mem_of_getElem? (List.getElem?_set_self (List.getElem?_eq_some_iff.1 hi).1);have X:=M.hands.hand x' hx';refine⟨⟨fun b hb=>?_,fun _ hb=>Or.inr (Or.inr (Or.inr hb)),KpS.refl _ _,Or.inl rfl,X.bbox,X.rowL,X.rowW,fun _ e=>Or.inr (Or.inl e),fun _ e=>Or.inr (Or.inr (Or.inl e)),X.ne,fun p hp=>M.hands.fz x' hx' p hp⟩,X.ri⟩;rcases hb with hb | hb | hb | hb
 ·exact Or.inl ⟨x',hx',Or.inr (Or.inl hb)⟩
 ·exact Or.inl ⟨x',hx',Or.inr (Or.inr (Or.inl hb))⟩
 ·exact Or.inl ⟨x',hx',Or.inr (Or.inr (Or.inr (Or.inl hb)))⟩
 ·exact Or.inr (Or.inl hb)
theorem rMerge_any (lo:Lo) (HS:List HR) (i:Nat) (x y:HR) (w:World) (H:Hands lo HS w) (hi:HS[i]?=some x) (ho:HOk x) (hy:y∈HS):
 Calls Tryz.prog 25 #[.pointer (some ⟨x.h,0,none⟩),.pointer (some ⟨y.h,0,none⟩)] w fun e w'=>MergeP lo HS i x w e w':=by
 have hx:=List.mem_of_getElem? hi;have X:=H.hand x hx;have Y:=H.hand y hy;obtain⟨h,hh⟩:=gNz (x.h);obtain⟨g,hg⟩:=gNz (x.g);obtain⟨yh,hyh⟩:=gNz (y.h);obtain⟨yg,hyg⟩:=gNz (y.g);obtain⟨pa,pc,hpv⟩:=own_form X.rowP;obtain⟨pn,hpn⟩:=gNz (x.P.length);rw[hpn] at hpv;have HEQ:Hid (x.h=h∧x.g=g∧y.h=yh∧y.g=yg∧x.vp=.slice pa pn pc∧x.P.length=pn):=⟨hh,hg,hyh,hyg,hpv,hpn⟩
 have HBX:Hid (w.heap[h]?=some (.cells #[.int .i64 x.act,.pointer (some ⟨g,0,none⟩),.slice pa pn pc] 68)∧w.heap[yh]?=some (.cells #[.int .i64 y.act,.pointer (some ⟨yg,0,none⟩),y.vp] 68)):=by
  rw[←hh,←hg,←hpv,←hyh,←hyg];exact⟨X.box,Y.box⟩
 have hyf:y.EL.length≤120:=by have:=Y.ri.few;unfold chgsOf at this;rw[List.length_map,List.length_map] at this;omega
 have E1:=rAll_any y.g y.vl y.vw y.EL w Y.bbox Y.rowL (fun p hp=>(H.fz y hy p (List.mem_append_left _ hp)).chgW) hyf Y.ri.inv;have HH:Hid (Hands lo HS w∧HS[i]?=some x∧HOk x∧y∈HS∧y.EL.length≤120):=⟨H,hi,ho,hy,hyf⟩
 obtain⟨post,hpost⟩:∃post:Ending→World→Prop,post=fun e w'=>MergeP lo HS i x w e w':=⟨_,rfl⟩
 have HPO:Hid (post=fun e w'=>MergeP lo HS i x w e w'):=hpost;rw[hyg] at E1;rw[hh,hyh,←hpost];clear hpost H hi ho hx hy X Y hh hg hyh hyg hpv hpn hyf;obtain⟨-,-,d2,-⟩:=cLs HBX.out.1;obtain⟨-,o1,-⟩:=cLs HBX.out.2;go_enter Tryz.func25,Tryz.ntmps25
 by_cases hp0:0<pn
 ·have HE:Hid (post (.returned (.tuple #[.int .i64 0,.int .i64 7])) w):=by
   show post _ _;rw[HPO.out];exact⟨_,_,rfl,step_none HH.out.1 HH.out.2.1 HH.out.2.2.1 (Below.refl _ _)⟩
  have hd:decide (0<pn)=true:=decide_eq_true hp0;clear E1;go_wp2;exact HE.out
 ·have HP0:Hid (x.P=[]):=List.length_eq_zero_iff.1 (by have:=HEQ.out.2.2.2.2.2;omega);go_wp2_with fail;go_fit E1;rintro e w1 ⟨lv,es,rfl,hrow,hall,hlen,hmem,b1⟩;obtain⟨ea,ec,hlv⟩:=slice_row hrow;obtain⟨en,hen⟩:=gNz ((es.map (·.2)).length);rw[hen] at hlv;subst hlv;have HEN:Hid (en=es.length∧en≤120):=by
   rw[List.length_map] at hen;exact⟨hen.symm,by have:=HH.out.2.2.2.2;omega⟩
  have HM0:Hid (MG lo HS i x es (.slice ea en ec) w x w1):=by
   have e1:=set_same HH.out.2.1;refine⟨by rw[e1];exact HH.out.1.below b1,⟨rfl,rfl,rfl⟩,HH.out.2.2.1,KpS.of b1,HP0.out,fun p hp=>?_,hrow,fun b hb=>Or.inl hb,fun b hb hl=>?_⟩
   ·rw[e1];exact((HH.out.1.fz y HH.out.2.2.2.1 p (List.mem_append_left _ (hmem p hp))).below b1).mono fun _ _ h=>h.imp id fun h=>h.imp (fun h=>Nat.le_trans b1.size h) id
   ·have h1:=(hrow.lt b hb).1;have h2:=(HH.out.1.hand x (List.mem_of_getElem? HH.out.2.1)).lt hl;omega
  clear hrow hall hlen hmem b1 E1 hen d2 o1 hp0;go_wp2_with fail;go_loopw [6,8] (fun nn iv wr=>∃(k:Nat) (nz:Int) (x':HR),k≤en∧iv=.int .i64 (k:Int)∧nn=.int .i64 nz∧Hid (0≤nz∧nz≤k∧MG lo HS i x es (.slice ea en ec) w x' wr)) (fun _ iv _=>en - (RowKit.intOf iv).toNat)
  case atStart=>exact⟨0,0,x,Nat.zero_le _,rfl,rfl,Int.le_refl _,Int.le_refl _,HM0.out⟩
  case round=>
   obtain⟨k,nz,x',hk,rfl,rfl,HR⟩:=hrel;by_cases hlt:k<en
   ·have hke:k<es.length:=by have:=HEN.out.1;omega
    obtain⟨⟨pc9,pu⟩,hpe⟩:∃p,es[k]=p:=⟨_,rfl⟩
    have hpm:(pc9,pu)∈es:=by rw[←hpe];exact List.getElem_mem hke
    have hx':x'∈HS.set i x':=List.mem_of_getElem? (List.getElem?_set_self (List.getElem?_eq_some_iff.1 HH.out.2.1).1);have X':=HR.out.2.2.hands.hand x' hx';have hfz:=HR.out.2.2.fz _ hpm;obtain⟨hval,_,hcv,hcells⟩:=toCX_val hfz.chg;dsimp only at hval hcv hcells hfz;obtain⟨xa,xs,xt,xd,xdn,xdc,xo,xom,xoe,rfl⟩:=hcv;have hes:IsChgs wr (.slice ea en ec) (es.map toCX):=rowC_chgs HR.out.2.2.row (by have:=HEN.out;omega) fun p hp=>(HR.out.2.2.fz p hp).chg;obtain⟨eB,eO,eel,ebl,eq1,eq2,ein,ecell,eq3⟩:=chgs_one hes (k:=k) (x:=toCX (pc9,.agg #[.int .i64 xa,.int .i64 xs,.int .i64 xt,.slice xd xdn xdc,.slice xo xom xoe])) (by rw[List.getElem?_map,List.getElem?_eq_getElem hke,hpe];rfl);clear eq1 eq2 eq3 ein;subst eel;rw[hcells] at ecell;have hfl:x'.EL.length+x'.EW.length≤120:=by have:=X'.ri.few;unfold chgsOf at this;rw[List.length_map,List.length_map] at this;exact this
    have hcl:IsChgs wr x'.vl (x'.EL.map toCX):=rowC_chgs X'.rowL (by omega) fun p hp=>(HR.out.2.2.hands.fz x' hx' p (List.mem_append_left _ hp)).chg;obtain⟨la,ln,lc,hlv⟩:∃a n c,x'.vl=.slice a n c:=by obtain⟨a,c,e,_⟩:=hcl;exact⟨_,_,_,e⟩
    have hbx:wr.heap[h]?=some (.cells #[.int .i64 x'.act,.pointer (some ⟨g,0,none⟩),x'.vp] 68):=by
     have h1:=X'.box;rw[HR.out.2.2.same.h,HR.out.2.2.same.g,HEQ.out.1,HEQ.out.2.1] at h1;exact h1
    have hbb:wr.heap[g]?=some (.cells #[.slice la ln lc,x'.vw] 73):=by
     have h1:=X'.bbox;rw[HR.out.2.2.same.g,HEQ.out.2.1,hlv] at h1;exact h1
    have HCL:Hid (∀W,Below wr.heap.size wr W→W.cell? ⟨h,1,none⟩=some (.pointer (some ⟨g,0,none⟩))∧W.cell? ⟨g,0,none⟩=some (.slice la ln lc)∧W.cell? ⟨eB,eO+k*5,none⟩=some (.int .i64 xa)∧W.cell? ⟨eB,eO+k*5+1,none⟩=some (.int .i64 xs)∧W.cell? ⟨eB,eO+k*5+2,none⟩=some (.int .i64 xt)∧W.cell? ⟨eB,eO+k*5+3,none⟩=some (.slice xd xdn xdc)∧W.cell? ⟨eB,eO+k*5+4,none⟩=some (.slice xo xom xoe)):=fun W hW=>by
     have hc:∀j,j<5→W.cell? ⟨eB,eO+k*5+j,none⟩=(vcells (.agg #[.int .i64 xa,.int .i64 xs,.int .i64 xt,.slice xd xdn xdc,.slice xo xom xoe]))[j]?:=fun j hj=>(hW.cell (p:=⟨eB,eO+k*5+j,none⟩) ebl).trans (ecell j hj);exact⟨cLo (heap_below hbx hW lRf) 1,cLo (heap_below hbb hW lRf) 0,hc 0 (by omega),hc 1 (by omega),hc 2 (by omega),hc 3 (by omega),hc 4 (by omega)⟩
    have HCE:Hid (IsChgs wr (.slice la ln lc) (x'.EL.map toCX)∧(x'.EL.map toCX).length≤1000∧FzC (LV lo (HS.set i x') wr) wr (.agg #[.int .i64 xa,.int .i64 xs,.int .i64 xt,.slice xd xdn xdc,.slice xo xom xoe]) pc9∧x'.vl=.slice la ln lc):=⟨by rw[←hlv];exact hcl,by rw[List.length_map];omega,hfz,hlv⟩
    have HBLK:Hid (wr.heap[h]?=some (.cells #[.int .i64 x'.act,.pointer (some ⟨g,0,none⟩),x'.vp] 68)∧(Value.slice (some ⟨eB,eO,none⟩) en ec).ownBlock=some eB∧eB<wr.heap.size):=⟨hbx,rfl,ebl⟩
    have HLT:Hid (k<en∧(k:Int)<1000):=⟨hlt,by have:=HEN.out;omega⟩
    have g1:(k:Int)<en:=by omega
    have g2:(0:Int)≤k:=by omega
    have HG:Hid ((k:Int)<en∧(0:Int)≤k):=⟨g1,g2⟩
    clear hlt hk hke hpe hpm hx' X' hfz hval hcells hes ebl ecell hfl hcl hlv hbx hbb;go_upto_region 8 with fail
    refine rNh (fun W=>Below wr.heap.size wr W) ((Below.refl _ _).drew) (fun hHeld=>?_);refine tkC 0 HCL rfl ?_;refine tkC 1 HCL rfl ?_;refine tkC 2 HCL rfl ?_;refine tkC 3 HCL rfl ?_;refine tkC 4 HCL rfl ?_;refine tkC 5 HCL rfl ?_;refine tkC 6 HCL rfl ?_;refine tkC 8 HCL rfl ?_;refine tkC 9 HCL rfl ?_;refine tkC 10 HCL rfl ?_;refine tkC 11 HCL rfl ?_;have E7:=rRefs_any (.slice la ln lc) (x'.EL.map toCX) wr.drew (HCE.out.1.below hHeld) HCE.out.2.1;refine ts 7 rfl (fun K hK=>?_);go_simp;go_at_call 14;refine Calls.mono E7 ?_;rintro e w3 ⟨⟨u3,rfl,hu3,_⟩,b3⟩;obtain⟨ua,un,uc,rfl⟩:∃a n c,u3=.slice a n c:=by obtain⟨a,c,e,_⟩:=id hu3;exact⟨_,_,_,e⟩
    go_wp2_with fail;refine hK.out _ _ (hHeld.trans (b3.mono hHeld.size)) (fun hH3=>?_);clear hK K E7;try simp only[Act.put,nm]
    have ER:=rRefC_any xa xs xt xd xdn xdc xo xom xoe w3;refine ts 12 rfl (fun K hK=>?_);go_simp;go_at_call 50;refine ER.mono ?_;rintro e w4 ⟨rfl,b4⟩;go_wp2_with fail;refine hK.out _ _ (hH3.trans (b4.mono hH3.size)) (fun hH4=>?_);clear hK K ER;try simp only[Act.put,nm]
    have EH:=rHas_any (.slice ua un uc) _ (xa,xs) w4 (hu3.below b4);obtain⟨hb,hhb⟩:=gNz (decide ((xa,xs)∈refsS ((x'.EL.map toCX).map (·.c))):Bool);rw[hhb] at EH;clear hhb hu3;unfold refV at EH ⊢;refine ts 13 rfl (fun K hK=>?_);go_simp;go_at_call 17;refine EH.mono ?_;rintro e w5 ⟨rfl,b5⟩;go_wp2_with fail;refine hK.out _ _ (hH4.trans (b5.mono hH4.size)) (fun hH5=>?_);clear hK K EH;try simp only[Act.put,nm]
    refine tk 14 rfl ?_;refine wDn ?_;have HB5:Hid (Below wr.heap.size wr w5):=hH5;clear hHeld hH3 hH4 hH5 b3 b4 b5 g1 g2;have HN5:Hid (0≤nz∧nz≤((k+1:Nat):Int)∧MG lo HS i x es (.slice (some ⟨eB,eO,none⟩) en ec) w x' w5):=⟨HR.out.1,by have:=HR.out.2.1;omega,HR.out.2.2.next HB5.out⟩
    cases hb with
    | true=>
     go_upto_region 7 with fail
     have i3:=HLT.out.2;go_wp2;go_roundw
     case rel=>exact⟨k+1,nz,x',HLT.out.1,by go_num,rfl,HN5.out⟩
     case measure=>have:=HLT.out;simp[RowKit.intOf];omega
    | false=>
     go_upto_region 10 with fail
     have HMD:Hid (MG lo HS i x es (.slice (some ⟨eB,eO,none⟩) en ec) w x' w5.drew):=HN5.out.2.2.next (Below.refl _ _).drew;obtain⟨S',hS'⟩:∃S':Nat→Prop,S'=fun b=>b=x'.g∨x'.vl.ownBlock=some b∨x'.vw.ownBlock=some b∨w5.drew.heap.size≤b:=⟨_,rfl⟩
     have HS':Hid (S'=fun b=>b=x'.g∨x'.vl.ownBlock=some b∨x'.vw.ownBlock=some b∨w5.drew.heap.size≤b):=hS';obtain⟨hrb,hri⟩:=HMD.out.ready HH.out.2.1;rw[←hS'] at hrb;have hfz:FzC (LV lo (HS.set i x') w5.drew) w5.drew (.agg #[.int .i64 xa,.int .i64 xs,.int .i64 xt,.slice xd xdn xdc,.slice xo xom xoe]) pc9:=(HCE.out.2.2.1.below (drew_of HB5.out)).mono fun _ _ h=>h.imp id fun h=>h.imp (fun h=>Nat.le_trans HB5.out.size h) id;have ET:=rTake_any S' (LV lo (HS.set i x') w5.drew) w5.drew x'.g x'.EL x'.EW x'.vl x'.vw _ pc9 w5.drew hrb hri hfz;have hgg:x'.g=g:=HR.out.2.2.same.g.trans HEQ.out.2.1;rw[hgg] at ET;have HGG:Hid (x'.g=g):=hgg;have HCC:Hid (∀W:World,W.heap[h]?=w5.heap[h]?→W.heap[eB]?=w5.heap[eB]?→W.cell? ⟨h,1,none⟩=some (.pointer (some ⟨g,0,none⟩))∧W.cell? ⟨eB,eO+k*5,none⟩=some (.int .i64 xa)∧W.cell? ⟨eB,eO+k*5+1,none⟩=some (.int .i64 xs)∧W.cell? ⟨eB,eO+k*5+2,none⟩=some (.int .i64 xt)∧W.cell? ⟨eB,eO+k*5+3,none⟩=some (.slice xd xdn xdc)∧W.cell? ⟨eB,eO+k*5+4,none⟩=some (.slice xo xom xoe)):=fun W k1 k2=>by
      obtain⟨_,_,c0,c1,c2,c3,c4⟩:=HCL.out w5 HB5.out;have hc:∀o,W.cell? ⟨eB,o,none⟩=w5.cell? ⟨eB,o,none⟩:=fun o=>by unfold World.cell?;dsimp only;rw[k2]
      exact⟨cLo (k1.trans (heap_below HBLK.out.1 HB5.out lRf)) 1,(hc _).trans c0,(hc _).trans c1,(hc _).trans c2,(hc _).trans c3,(hc _).trans c4⟩
     have HKK:Hid (∀(t:Int) (w6:World),RTakeP S' (LV lo (HS.set i x') w5.drew) w5.drew w5.drew g x'.EL x'.EW pc9 t w6→w6.heap[h]?=w5.heap[h]?∧w6.heap[eB]?=w5.heap[eB]?∧∃x'',MG lo HS i x es (.slice (some ⟨eB,eO,none⟩) en ec) w x'' w6):=fun t w6 hT=>by
      rw[←HGG.out] at hT;have hM:=HMD.out.take HH.out.2.1 HS'.out hT;obtain⟨_,_,_,_,_,_,_,K6,_⟩:=hT;have hx':x'∈HS.set i x':=List.mem_of_getElem? (List.getElem?_set_self (List.getElem?_eq_some_iff.1 HH.out.2.1).1);have X':=HMD.out.hands.hand x' hx';have hh':x'.h=h:=HR.out.2.2.same.h.trans HEQ.out.1;have hlt:h<w5.drew.heap.size:=by rw[←hh'];exact lt_of_heap X'.box
      refine⟨K6.block h hlt (fun hS=>?_),K6.block eB (Nat.lt_of_lt_of_le HBLK.out.2.2 HB5.out.size) (fun hS=>?_),hM⟩
      ·rw[HS'.out,←hh'] at hS;rcases hS with hS | hS | hS | hS
       ·exact cells_apart X'.box X'.bbox (by decide) hS
       ·exact own_ne_box X'.rowL X'.box (by decide) hS
       ·exact own_ne_box X'.rowW X'.box (by decide) hS
       ·rw[hh'] at hS;omega
      ·rw[HS'.out] at hS;have hap:=HMD.out.apart eB HBLK.out.2.1;rcases hS with hS | hS | hS | hS
       ·exact hap (Or.inr (Or.inl hS))
       ·exact hap (Or.inr (Or.inr (Or.inl hS)))
       ·exact hap (Or.inr (Or.inr (Or.inr (Or.inl hS))))
       ·have h1:=HBLK.out.2.2;have h2:=HB5.out.size;have h3:w5.drew.heap.size=w5.heap.size:=rfl;omega
     have g1:=HG.out.1;have g2:=HG.out.2;clear hS' hrb hri hfz hgg;refine rNh (fun W=>W.heap[h]?=w5.heap[h]?∧W.heap[eB]?=w5.heap[eB]?) (⟨rfl,rfl⟩) (fun hHeld=>?_);refine tk 0 rfl ?_ (by intro wz hSw;obtain⟨z0,z1,z2,z3,z4,z5⟩:=HCC.out wz hSw.1 hSw.2;go_simp;try with_reducible rfl);refine tk 1 rfl ?_ (by intro wz hSw;obtain⟨z0,z1,z2,z3,z4,z5⟩:=HCC.out wz hSw.1 hSw.2;go_simp;try with_reducible rfl);refine tk 2 rfl ?_ (by intro wz hSw;obtain⟨z0,z1,z2,z3,z4,z5⟩:=HCC.out wz hSw.1 hSw.2;go_simp;try with_reducible rfl);refine tk 3 rfl ?_ (by intro wz hSw;obtain⟨z0,z1,z2,z3,z4,z5⟩:=HCC.out wz hSw.1 hSw.2;go_simp;try with_reducible rfl);refine tk 4 rfl ?_ (by intro wz hSw;obtain⟨z0,z1,z2,z3,z4,z5⟩:=HCC.out wz hSw.1 hSw.2;go_simp;try with_reducible rfl);refine tk 5 rfl ?_ (by intro wz hSw;obtain⟨z0,z1,z2,z3,z4,z5⟩:=HCC.out wz hSw.1 hSw.2;go_simp;try with_reducible rfl);refine tk 6 rfl ?_ (by intro wz hSw;obtain⟨z0,z1,z2,z3,z4,z5⟩:=HCC.out wz hSw.1 hSw.2;go_simp;try with_reducible rfl);refine tk 7 rfl ?_ (by intro wz hSw;obtain⟨z0,z1,z2,z3,z4,z5⟩:=HCC.out wz hSw.1 hSw.2;go_simp;try with_reducible rfl);refine ts 8 rfl (fun K hK=>?_);go_simp;go_at_call 28
     refine Calls.mono ET ?_;rintro e w6 ⟨t,rfl,hT⟩;have hk6:=HKK.out t w6 hT;go_wp2_with fail;refine hK.out _ _ (⟨hk6.1,hk6.2.1⟩) (fun hH5=>?_);clear hK K ET;try simp only[Act.put,nm]
     refine tk 9 rfl ?_;refine wDn ?_;obtain⟨_,_,x9,hM9⟩:=hk6;have HM9:Hid (MG lo HS i x es (.slice (some ⟨eB,eO,none⟩) en ec) w x9 w6):=hM9;clear hHeld hH5 hT hM9 g1 g2;by_cases ht:t=0
     ·subst ht;have HN9:Hid (0≤nz+1∧nz+1≤((k+1:Nat):Int)∧nz+1<10000):=by
       have h1:=HN5.out.1;have h2:=HR.out.2.1;have h3:=HLT.out.2;exact⟨by omega,by omega,by omega⟩
      have hw9:IntKind.i64.wrap (nz+1)=nz+1:=IntWalk.i64_in _ (by have:=HN9.out;omega);go_upto_region 7 with fail
      have i3:=HLT.out.2;clear hw9;go_wp2;go_roundw
      case rel=>exact⟨k+1,nz+1,x9,HLT.out.1,by go_num,rfl,HN9.out.1,HN9.out.2.1,HM9.out⟩
      case measure=>have:=HLT.out;simp[RowKit.intOf];omega
     ·have hd:(t !=0)=true:=by simpa using ht
      have HE:Hid (post (.returned (.tuple #[.int .i64 0,.int .i64 t])) w6):=by
       show post _ _;rw[HPO.out];exact⟨_,_,rfl,x9,HM9.out.hands,HM9.out.same,HM9.out.ok,HM9.out.kp⟩
      clear ht;go_wp2;exact HE.out
   ·have g1:¬(k:Int)<en:=by omega
    have HE:Hid (post (.returned (.tuple #[.int .i64 nz,.int .i64 0])) wr):=by
     show post _ _;rw[HPO.out];exact⟨_,_,rfl,x',HR.out.2.2.hands,HR.out.2.2.same,HR.out.2.2.ok,HR.out.2.2.kp⟩
    clear hlt hk;go_wp2;exact HE.out
end Go.Proofs.YtamhlgflbacjgaaGreat
