/-
  What is proved: as each theorem says.
  Conditions: as each theorem says.
-/
import Derived.Test.YtamhlgflbacjgaaGreatF00
import Derived.Test.YtamhlgflbacjgaaGreatF13
import Derived.Test.YtamhlgflbacjgaaGreatF14
import Derived.Deep.RegionHeld3
import Derived.Handy
set_option maxRecDepth 100000
set_option maxHeartbeats 16000000
namespace Go.Proofs.YtamhlgflbacjgaaGreat
open Go.RowKit Go.Sort
def Ready (L:List Chg) (c:Chg):Prop:=∀d∈c.deps,d∈refsOf L
def FitC (L:List Chg) (c:Chg):Prop:=∃D,IsBeh L c.deps D∧Fit L D c
open Classical in
theorem beh_ex (L:List Chg) (hs:List Pr):∃D,IsBeh L hs D:=by
 refine⟨(refsOf L).filter (fun x=>decide (∀D',Closed L hs D'→x∈D')),⟨fun x hx hr=>?_,fun c hc hcD d hd hr=>?_⟩,fun D' hD' x hx=>?_⟩
 ·exact List.mem_filter.2 ⟨hr,decide_eq_true fun D' h=>h.1 x hx hr⟩
 ·have h1:=of_decide_eq_true (List.mem_filter.1 hcD).2;exact List.mem_filter.2 ⟨hr,decide_eq_true fun D' h=>h.2 c hc (h1 D' h) d hd hr⟩
 ·exact of_decide_eq_true (List.mem_filter.1 hx).2 D' hD'
theorem fitC_iff {L:List Chg} {D:List Pr} {c:Chg} (h:IsBeh L c.deps D):FitC L c↔Fit L D c:=
 ⟨fun⟨_,h1,h2⟩=>h2.same (h1.same h),fun h1=>⟨D,h,h1⟩⟩
theorem fitC_bool {L:List Chg} {c:Chg} {b:Bool} (h:∀D,IsBeh L c.deps D→(b=true↔Fit L D c)):b=true↔FitC L c:=by
 obtain⟨D,hD⟩:=beh_ex L c.deps;rw[h D hD,fitC_iff hD]
theorem Inv.more {L:List Chg} {c:Chg} (I:Inv L) (hc:chk c=0) (hn:c.ref∉refsOf L) (hd:Ready L c) (hF:FitC L c):Inv (L++[c]):=by
 obtain⟨D,h1,h2⟩:=hF;exact I.snoc hc hn hd h1 h2
def Least (L W:List Chg) (c:Chg):Prop:=c∈W∧Ready L c∧∀x∈W,Ready L x→x.ref=c.ref∨ltR c.ref x.ref
def WStep (L W L' W':List Chg):Prop:=
 ∃c,Least L W c∧((FitC L c∧L'=L++[c])∨(¬FitC L c∧L'=L))∧W'=W.filter fun x=>decide (x.ref≠c.ref)
def WSteps:Nat→List Chg→List Chg→List Chg→List Chg→Prop
 | 0,L,W,L',W'=>L'=L∧W'=W
 | n+1,L,W,L',W'=>∃L1 W1,WSteps n L W L1 W1∧WStep L1 W1 L' W'
def WakeR (L W L' W':List Chg):Prop:=∃n,WSteps n L W L' W'∧∀x∈W',¬Ready L' x
theorem ltR_irr (a:Pr):¬ltR a a:=fun h=>by unfold ltR at h;omega
theorem ltR_asym {a b:Pr} (h:ltR a b):¬ltR b a:=fun g=>by unfold ltR at h g;omega
structure TakeR (L W:List Chg) (c:Chg) (L' W':List Chg):Prop where
 bad:chk c≠0→L'=L∧W'=W
 old:chk c=0→(c.ref∈refsOf L∨c.ref∈refsOf W)→L'=L∧W'=W
 full:chk c=0→¬(c.ref∈refsOf L∨c.ref∈refsOf W)→120≤L.length+W.length→L'=L∧W'=W
 wait:chk c=0→¬(c.ref∈refsOf L∨c.ref∈refsOf W)→L.length+W.length<120→¬Ready L c→L'=L∧W'=W++[c]
 unfit:chk c=0→¬(c.ref∈refsOf L∨c.ref∈refsOf W)→L.length+W.length<120→Ready L c→¬FitC L c→L'=L∧W'=W
 take:chk c=0→¬(c.ref∈refsOf L∨c.ref∈refsOf W)→L.length+W.length<120→Ready L c→FitC L c→WakeR (L++[c]) W L' W'
theorem pairs_grown {W W':World} {v:Value} {l:List Pr} {row:Option Nat} (h:IsPairs W v l) (hg:W.grownBy W' row) (hb:∀b,v.ownBlock=some b→row≠some b):IsPairs W' v l:=by
 obtain⟨a,cap,rfl,h1,h2,h3,h4⟩:=h;refine⟨a,cap,rfl,h1,h2,h3,fun hne=>?_⟩;obtain⟨b,off,rfl,h5,h6⟩:=h4 hne;have e:W'.heap[b]?=W.heap[b]?:=hg.block b h5 (fun e=>hb b rfl e.symm);have hc:∀o,W'.cell? ⟨b,o,none⟩=W.cell? ⟨b,o,none⟩:=fun o=>by unfold World.cell?;rw[e]
 refine⟨b,off,rfl,Nat.lt_of_lt_of_le h5 hg.size,fun i hi=>?_⟩;rw[hc,hc];exact h6 i hi
structure Gth (L:List Chg) (hs O T:List Pr) (k:Nat):Prop where
 rise:Rise O
 there:∀x∈O,x∈refsOf L
 heads:∀x∈hs,x∈T
 past:∀i (h:i<T.length),i<k→T[i]∈refsOf L→T[i]∈O
 deps:∀c∈L,c.ref∈O→∀d∈c.deps,d∈T
 least:∀D',Closed L hs D'→(∀x∈O,x∈D')∧∀x∈T,x∈refsOf L→x∈D'
 len:T.length≤hs.length+12*O.length
 r64:∀x∈T,R64 x
theorem rise_nd {l:List Pr} (h:Rise l):l.Nodup:=h.imp (fun h e=>by rw[e] at h;exact ltR_irr _ h)
theorem Gth.few {L:List Chg} {hs O T:List Pr} {k:Nat} (h:Gth L hs O T k):O.length≤L.length:=by
 have:=nodup_len (rise_nd h.rise) h.there;unfold refsOf at this
 rwa [List.length_map] at this
theorem Gth.start (L:List Chg) (hs:List Pr) (h:∀x∈hs,R64 x):Gth L hs [] hs 0:=
 ⟨List.Pairwise.nil,(fun _ h=>by cases h),fun _ h=>h,fun _ _ h=>absurd h (Nat.not_lt_zero _),(fun _ _ h=>by cases h),fun _ hD=>⟨(fun _ h=>by cases h),fun x hx hr=>hD.1 x hx hr⟩,by simp,h⟩
theorem Gth.skip {L:List Chg} {hs O T:List Pr} {k:Nat} (h:Gth L hs O T k) (hk:k<T.length) (hx:T[k]∈O∨T[k]∉refsOf L):Gth L hs O T (k+1):=
 ⟨h.rise,h.there,h.heads,fun i hi hik hr=>by
  rcases Nat.lt_or_ge i k with e | e
  ·exact h.past i hi e hr
  ·obtain rfl:i=k:=by omega
   exact hx.elim id (fun g=>absurd hr g),h.deps,h.least,h.len,h.r64⟩
theorem Gth.add {L:List Chg} {hs O T:List Pr} {k:Nat} (h:Gth L hs O T k) (hn:(refsOf L).Nodup) (hk:k<T.length) (hx:T[k]∉O) {c:Chg} (hc:c∈L) (hr:c.ref=T[k]) (hd:c.deps.length≤12) (h64:∀d∈c.deps,R64 d):Gth L hs (putS O T[k]) (T++c.deps) (k+1):=by
 have hmem:∀x,x∈putS O T[k]↔x=T[k]∨x∈O:=fun x=>mem_putS;have hlen:(putS O T[k]).length=O.length+1:=by
  have h1:=rise_nd (rise_putS (r:=T[k]) h.rise);unfold putS;rw[if_neg hx,List.length_append,List.length_cons];have:=congrArg List.length (List.takeWhile_append_dropWhile (p:=(aheadB · T[k])) (l:=O));rw[List.length_append] at this;omega
 refine⟨rise_putS h.rise,fun x hx=>?_,fun x hx=>List.mem_append_left _ (h.heads x hx),fun i hi hik hir=>?_,fun x hx hxO d hd=>?_,fun D' hD=>⟨fun x hx=>?_,fun x hx hr2=>?_⟩,?_,fun x hx=>?_⟩
 ·rcases(hmem x).1 hx with e | e
  ·rw[e,←hr];exact mem_refs.2 ⟨c,hc,rfl⟩
  ·exact h.there x e
 ·have hik2:i<T.length:=by omega
  rw[List.getElem_append_left hik2] at hir ⊢;rcases Nat.lt_or_ge i k with e | e
  ·exact(hmem _).2 (Or.inr (h.past i hik2 e hir))
  ·obtain rfl:i=k:=by omega
   exact(hmem _).2 (Or.inl rfl)
 ·rcases(hmem _).1 hxO with e | e
  ·have:x=c:=refs_inj hn hx hc (e.trans hr.symm);rw[this] at hd;exact List.mem_append_right _ hd
  ·exact List.mem_append_left _ (h.deps x hx e d hd)
 ·rcases(hmem _).1 hx with e | e
  ·rw[e];exact(h.least D' hD).2 _ (List.getElem_mem hk) (by rw[←hr];exact mem_refs.2 ⟨c,hc,rfl⟩)
  ·exact(h.least D' hD).1 x e
 ·rcases List.mem_append.1 hx with e | e
  ·exact(h.least D' hD).2 x e hr2
  ·exact hD.2 c hc (by rw[hr];exact(h.least D' hD).2 _ (List.getElem_mem hk) (by rw[←hr];exact mem_refs.2 ⟨c,hc,rfl⟩)) x e hr2
 ·rw[List.length_append,hlen];have:=h.len;omega
 ·rcases List.mem_append.1 hx with e | e
  ·exact h.r64 x e
  ·exact h64 x e
theorem Gth.done {L:List Chg} {hs O T:List Pr} {k:Nat} (h:Gth L hs O T k) (hk:T.length≤k):IsBeh L hs O:=by
 have all:∀x∈T,x∈refsOf L→x∈O:=fun x hx hr=>by
  obtain⟨i,hi,rfl⟩:=List.getElem_of_mem hx;exact h.past i hi (by omega) hr
 exact⟨⟨fun x hx hr=>all x (h.heads x hx) hr,fun c hc hcO d hd hr=>all d (h.deps c hc hcO d hd) hr⟩,fun D' hD=>(h.least D' hD).1⟩
structure GthM (w:World) (O T:List Pr) (vo vt:Value) (wr:World):Prop where
 bel:Below w.heap.size w wr
 found:IsPairs wr vo O
 wh:Wh vo
 row:RowPr 45 w.heap.size vt T wr
 apart:∀b,vo.ownBlock=some b→b<wr.heap.size∧vt.ownBlock≠some b
theorem rBehind_any (v vh:Value) (l:List CX) (hs:List Pr) (w:World) (hv:IsChgs w v l) (hwd:∀x∈l,Wh x.ud) (hh:IsPairs w vh hs) (hwh:Wh vh) (hn:(refsOf (l.map (·.c))).Nodup) (hl:l.length≤1000) (hd:∀x∈l,x.c.deps.length≤12) (hhl:hs.length≤1000000):
 Calls Tryz.prog 96 #[v,vh] w fun e w'=>(∃u O,e=.returned u∧IsPairs w' u O∧Wh u∧Rise O∧IsBeh (l.map (·.c)) hs O)∧Below w.heap.size w w':=by
 obtain⟨t0,W0,happ,row0,gr0,_⟩:=run_appP 30 w w.heap.size lRf (.slice none 0 0) vh [] hs (World.ownsRow_nil _ _ _ _) hh hwh (by simp;omega);rw[List.nil_append] at row0;have bb0:Below w.heap.size w W0:=⟨gr0.os,gr0.tape,gr0.output,gr0.size,fun j hj=>gr0.block j hj (by simp[Value.ownBlock])⟩
 have HM0:Hid (GthM w [] hs (.slice none 0 0) t0 W0):=⟨bb0,isPairs_nil _ _ _,Or.inl rfl,row0,fun b e=>by cases e⟩
 have H64:Hid (∀x∈hs,R64 x):=by obtain⟨_,_,_,_,_,h3,_⟩:=hh;exact h3
 obtain⟨ha,hcn,hcc,rfl⟩:∃a n c,vh=.slice a n c:=by obtain⟨a,c,e,_⟩:=hh;exact⟨_,_,_,e⟩
 obtain⟨la,ln,lc,rfl⟩:∃a n c,v=.slice a n c:=by obtain⟨a,c,e,_⟩:=hv;exact⟨_,_,_,e⟩
 have HV:=hY6 hv hwd hn hl hd hhl;clear hv hwd hh hwh hn hl hd hhl row0 gr0 bb0;go_enter Tryz.func96,Tryz.ntmps96
 go_wp2_with (first | (at_builtin;refine wp_append rfl _ _ 30 rfl _ _ _ _ rfl rfl happ ?_) | fail);clear happ;go_loopg [5,6,7] (13000+hs.length) (fun gk xo xt i wr=>∃(O T:List Pr) (k:Nat) (vo vt:Value),i=.int .i64 k∧vo=xo∧vt=xt∧Hid (Gth (l.map (·.c)) hs O T k∧GthM w O T vo vt wr∧k≤T.length∧13*(1000 - O.length)+(T.length - k)≤gk))
 case atStart=>exact⟨[],hs,0,_,_,rfl,rfl,rfl,Gth.start _ _ H64.out,HM0.out,Nat.zero_le _,by simp⟩
 case round=>
  obtain⟨O,T,k,vo,vt,rfl,rfl,rfl,hR⟩:=hrel;clear HM0;obtain⟨hG,hM,hkT,hgk⟩:=hR.out;clear hR;have hfew:=hG.few;rw[List.length_map] at hfew;have hTl:T.length≤1012000:=by have:=hG.len;have:=HV.out;omega
  have hTP:IsPairs wr vt T:=hM.row.pairs (by omega) hG.r64;obtain⟨ta,tn,tc,rfl⟩:∃a n c,vt=.slice a n c:=by obtain⟨a,c,e,_⟩:=hTP;exact⟨_,_,_,e⟩
  obtain rfl:tn=T.length:=by obtain⟨a,c,e,_⟩:=hTP;exact(Value.slice.inj e).2.1
  obtain⟨oa,on,oc,rfl⟩:∃a n c,vo=.slice a n c:=by obtain⟨a,c,e,_⟩:=hM.found;exact⟨_,_,_,e⟩
  have HG:Hid (Gth (l.map (·.c)) hs O T k):=hG;have HMM:Hid (GthM w O T (.slice oa on oc) (.slice ta T.length tc) wr):=hM;have HT:=hY4 hTl hkT hgk ((by have:=HV.out;omega):O.length≤1000);obtain⟨tl,htl⟩:=gNz (T.length);by_cases hlt:k<T.length
  ·obtain⟨a',c',e9,_,_,_,h4⟩:=id hTP;obtain⟨b,off,rfl,h5,h6⟩:=h4 (fun e=>by rw[e] at hlt;simp at hlt);obtain⟨e91,e92,e93⟩:=Value.slice.inj e9;subst e91;subst e93;clear e92;obtain⟨p,hp⟩:=gNz (T[k]:Pr);have x0:wr.cell? ⟨b,off+k*2,none⟩=some (.int .i64 p.1):=by rw[←hp];exact(h6 k hlt).1
   have x1:wr.cell? ⟨b,off+k*2+1,none⟩=some (.int .i64 p.2):=by rw[←hp];exact(h6 k hlt).2
   have HK:Hid (∃h:k<T.length,T[k]=p):=⟨hlt,hp⟩
   have HTP:Hid (IsPairs wr (.slice (some ⟨b,off,none⟩) T.length tc) T):=hTP;have zb:b<wr.heap.size:=h5;have g1:(k:Int)<tl:=by omega
   have g2:(k:Int)<1012000:=by omega
   have g3:(0:Int)≤k:=by omega
   have E1:=rHas_any _ O p wr hM.found;obtain⟨hb,hhb⟩:=gNz (decide (p∈O):Bool);rw[hhb] at E1;have HHB:Hid (decide (p∈O)=hb):=hhb;have HTL:Hid (T.length=tl):=htl;rw[htl] at HTP HMM ⊢;clear hTP hM hG hkT hgk hfew hTl hhb htl e9 h4 h5 h6 hlt hp;go_wp2_with fail;go_fit E1;rintro e w1 ⟨rfl,b1⟩;clear E1;have E2:=rFind_any (.slice la ln lc) l p w1 (HV.out.1.below (HMM.out.bel.trans (b1.mono HMM.out.bel.size)));have z0:w1.cell? ⟨b,off+k*2,none⟩=some (.int .i64 p.1):=by rw[b1.cell (p:=⟨b,off+k*2,none⟩) zb];exact x0
   have z1:w1.cell? ⟨b,off+k*2+1,none⟩=some (.int .i64 p.2):=by rw[b1.cell (p:=⟨b,off+k*2+1,none⟩) zb];exact x1
   have B1:Hid (Below wr.heap.size wr w1):=b1;clear x0 x1 b1;go_wp2_with fail;go_fit E2;rintro e w2 ⟨⟨x,rfl,hx⟩,b2⟩;have B2:Hid (Below wr.heap.size wr w2):=B1.out.trans (b2.mono B1.out.size);have HX:Hid (FindP (l.map (·.c)) p x):=hx;have y0:w2.cell? ⟨b,off+k*2,none⟩=some (.int .i64 p.1):=by rw[b2.cell (p:=⟨b,off+k*2,none⟩) (Nat.lt_of_lt_of_le zb B1.out.size)];exact z0
   have y1:w2.cell? ⟨b,off+k*2+1,none⟩=some (.int .i64 p.2):=by rw[b2.cell (p:=⟨b,off+k*2+1,none⟩) (Nat.lt_of_lt_of_le zb B1.out.size)];exact z1
   clear E2 z0 z1 b2 hx B1;have HSK:Hid ((p∈O∨p∉refsOf (l.map (·.c)))→Gth (l.map (·.c)) hs O T (k+1)∧GthM w O T (.slice oa on oc) (.slice (some ⟨b,off,none⟩) tl tc) w2∧k+1≤T.length∧13*(1000 - O.length)+(T.length - (k+1))≤gk - 1):=fun hh=>by
    obtain⟨hk,e⟩:=HK.out;refine⟨HG.out.skip hk (by rw[e];exact hh),⟨HMM.out.bel.trans (B2.out.mono HMM.out.bel.size),HMM.out.found.below B2.out,HMM.out.wh,own_below HMM.out.row B2.out lRf,fun b' hb'=>⟨Nat.lt_of_lt_of_le (HMM.out.apart b' hb').1 B2.out.size,(HMM.out.apart b' hb').2⟩⟩,hk,by have:=HT.out;omega⟩
   have HGK:Hid (0<gk):=by obtain⟨hk,_⟩:=HK.out;have:=HT.out;show 0<gk;omega
   cases hb with
   | true=>
    have HS1:Hid _:=HSK.out (Or.inl (of_decide_eq_true HHB.out));clear HSK HHB y0 y1;go_wp2;go_roundg (gk - 1)
    case measure=>have:=HGK.out;omega
    case rel=>exact⟨O,T,k+1,_,_,by first | rfl | go_num | (congr 1;unfold wrap64;have:=HT.out;omega),rfl,rfl,HS1.out⟩
   | false=>
    by_cases hneg:x<0
    ·have HS1:Hid _:=HSK.out (Or.inr (HX.out.neg.1 hneg));clear HSK HHB y0 y1;go_wp2;go_roundg (gk - 1)
     case measure=>have:=HGK.out;omega
     case rel=>exact⟨O,T,k+1,_,_,by first | rfl | go_num | (congr 1;unfold wrap64;have:=HT.out;omega),rfl,rfl,HS1.out⟩
    ·clear HSK;have HNO:Hid (p∉O):=of_decide_eq_false HHB.out;clear HHB;have HE3:Hid (Calls _ _ _ _ _):=rPutR_any _ O p w2 (HMM.out.found.below B2.out) HMM.out.wh (by obtain⟨hk,e⟩:=HK.out;rw[←e];exact HG.out.r64 _ (List.getElem_mem hk)) (by have:=HT.out;omega);have HG2:Hid ((k:Int)<1012000):=g2;have HNG:Hid (0≤x):=by show 0≤x;omega
     have HG1:Hid ((k:Int)<tl):=g1;have HZB:Hid (b<wr.heap.size):=zb;obtain⟨xb,hxb⟩:=gNz (decide (x<0):Bool);obtain rfl:xb=false:=by rw[←hxb];exact decide_eq_false hneg
     clear g2 hneg g1 zb;go_upto_region 10 with fail
     obtain⟨j,hxj,hj,hjr⟩:∃j:Nat,x=j∧∃h:j<(l.map (fun y:CX=>y.c)).length,((l.map (fun y:CX=>y.c))[j]'h).ref=p:=by
      rcases HX.out with⟨e,_⟩ | ⟨j,e1,h1,e2,_⟩
      ·have:=HNG.out;omega
      ·exact⟨j,e1,h1,e2⟩
     rw[List.length_map] at hj;rw[List.getElem_map] at hjr;obtain⟨q,hq⟩:=gNz (l[j]:CX);rw[hq] at hjr;have HJ:Hid (q∈l∧q.c.ref=p∧∃h:j<l.length,l[j]=q):=⟨by rw[←hq];exact List.getElem_mem hj,hjr,hj,hq⟩
     clear HX HNG hxb hjr hq hj;subst hxj;have g1:(k:Int)<tl:=HG1.out;go_wp2_with fail;have E3:Calls _ _ _ _ _:=HE3.out;go_fit E3;rintro e w3 ⟨⟨u3,rfl,h31,h32,h33⟩,b3⟩;clear E3 HE3;have hIn:q.In w:=by
      obtain⟨_,_,_,_,_,hr9,_⟩:=HV.out.1;exact hr9 q HJ.out.1
     obtain⟨la',lc',el,_,_,_,hrow9⟩:=id HV.out.1;obtain⟨ela,elb,elc⟩:=Value.slice.inj el;obtain⟨lb,lo,ela2,hlb,hcell⟩:=hrow9 (fun e=>by have:=HJ.out.1;rw[e] at this;cases this);rw[ela2] at ela;subst ela;clear el ela2 elc;obtain⟨_,dd,dn,dc,_,_,_,eud,_⟩:=CX.form hIn;have hpd:IsPairs w q.ud q.c.deps:=by
      obtain⟨ud,uo,ll,f1,_,_,_,f5,_⟩:=hIn;simp at f1;rw[f1.1];exact f5
     have bw3:Below w.heap.size w w3:=(HMM.out.bel.trans (B2.out.mono HMM.out.bel.size)).trans (b3.mono (Nat.le_trans HMM.out.bel.size B2.out.size));have row3:RowPr 45 w.heap.size (.slice (some ⟨b,off,none⟩) tl tc) T w3:=own_below (own_below HMM.out.row B2.out lRf) b3 lRf;have hd12:=HV.out.2.2.2.2.1 q HJ.out.1;obtain⟨v4,W4,happ,row4,gr4,hob⟩:=run_appP 30 w3 w.heap.size bw3.size (.slice (some ⟨b,off,none⟩) tl tc) q.ud T q.c.deps row3 (hpd.below bw3) (HV.out.2.1 q HJ.out.1) (by have:=HT.out;omega);have c3:w3.cell? ⟨lb,lo+j*5+3,none⟩=some (.slice dd dn dc):=by
      obtain⟨hj,ej⟩:=HJ.out.2.2;rw[bw3.cell (p:=⟨lb,lo+j*5+3,none⟩) hlb,hcell j hj 3 (by omega),ej,←eud];rfl
     have gj:(j:Int)<ln:=by obtain⟨hj,_⟩:=HJ.out.2.2;omega
     have gj0:(0:Int)≤j:=by omega
     have HNEW:Hid (Gth (l.map (·.c)) hs (putS O p) (T++q.c.deps) (k+1)∧GthM w (putS O p) (T++q.c.deps) u3 v4 W4∧k+1≤(T++q.c.deps).length∧13*(1000 - (putS O p).length)+((T++q.c.deps).length - (k+1))≤gk - 1):=by
      obtain⟨hk,ek⟩:=HK.out;have hgn:Gth (l.map (·.c)) hs (putS O p) (T++q.c.deps) (k+1):=by
       have:=HG.out.add (c:=q.c) HV.out.2.2.1 hk (by rw[ek];exact HNO.out) (List.mem_map.2 ⟨q,HJ.out.1,rfl⟩) (by rw[ek];exact HJ.out.2.1) hd12 (by obtain⟨_,_,_,_,_,h3,_⟩:=hpd;exact h3);rw[ek] at this;exact this
      have hap:∀b',u3.ownBlock=some b'→b'<w3.heap.size∧b'≠b:=fun b' hb'=>by
       rcases h33 with e | h33
       ·rw[e] at hb';obtain⟨h1,h2⟩:=HMM.out.apart b' hb';refine⟨Nat.lt_of_lt_of_le h1 (Nat.le_trans B2.out.size b3.size),fun e2=>h2 (by rw[e2];rfl)⟩
       ·obtain⟨h1,h2⟩:=h33 b' hb';refine⟨h2,fun e2=>?_⟩;have:=HZB.out;have:=B2.out.size;omega
      have hlen:(putS O p).length=O.length+1:=by
       have h0:putS O p=O.takeWhile (aheadB · p)++p::O.dropWhile (aheadB · p):=by unfold putS;rw[if_neg HNO.out]
       rw[h0,List.length_append,List.length_cons];have:=congrArg List.length (List.takeWhile_append_dropWhile (p:=(aheadB · p)) (l:=O));rw[List.length_append] at this;omega
      have hfew:=hgn.few;rw[List.length_map] at hfew;refine⟨hgn,⟨bw3.grown gr4 bw3.size (fun i e=>(row3.lt i e).1),pairs_grown h31 gr4 (fun b' hb' e=>(hap b' hb').2 (by injection e with e;exact e.symm)),h32,row4,fun b' hb'=>⟨Nat.lt_of_lt_of_le (hap b' hb').1 gr4.size,fun e=>?_⟩⟩,by rw[List.length_append];omega,?_⟩
      ·rcases hob with h | h
       ·rw[h] at e;exact(hap b' hb').2 (by injection e with e;exact e.symm)
       ·rw[h] at e;have:=(hap b' hb').1;injection e with e
        omega
      ·rw[List.length_append,hlen];have h1:=HT.out;have h2:=HV.out.2.2.2.1;omega
     rw[eud] at happ;clear h31 h32 h33 b3 hIn hrow9 hlb hcell hpd bw3 row3 hd12 row4 gr4 hob eud elb y0 y1 g1;go_wp2_with (first | (at_builtin;refine wp_append rfl _ _ 30 rfl _ _ _ _ rfl rfl happ ?_) | fail);clear happ c3 gj gj0;have g2:(k:Int)<1012000:=HG2.out;go_wp2;go_roundg (gk - 1)
     case measure=>have:=HGK.out;omega
     case rel=>exact⟨putS O p,T++q.c.deps,k+1,_,_,by first | rfl | go_num | (congr 1;unfold wrap64;have:=HT.out;omega),rfl,rfl,HNEW.out⟩
  ·have hke:¬(k:Int)<tl:=by omega
   have HEND:=hY5 hM.found hM.wh hG.rise (hG.done (by omega):IsBeh (l.map (·.c)) hs O) hM.bel;rw[htl];clear hTP hM hG hkT hgk hfew hTl htl hlt;go_wp2;go_ret;exact⟨⟨_,rfl,O,HEND.out.1,HEND.out.2.1,HEND.out.2.2.1,HEND.out.2.2.2.1⟩,HEND.out.2.2.2.2⟩
abbrev KE:Type:=OV×Pr
def keM (l:List KE):List (OpM×Pr):=l.map fun q=>(q.1.1,q.2)
theorem keM_len (l:List KE):(keM l).length=l.length:=List.length_map _
theorem keM_at (l:List KE) (k:Nat) (h:k<(keM l).length):(keM l)[k]=((l[k]'(by rw[keM_len] at h;exact h)).1.1,(l[k]'(by rw[keM_len] at h;exact h)).2):=List.getElem_map ..
def kcells (l:List KE):List Value:=l.flatMap fun q=>knCells q.1.1 q.1.2 q.2
theorem kcells_append (p q:List KE):kcells (p++q)=kcells p++kcells q:=by simp[kcells]
theorem kn_len (o:OpM) (pv:Value) (a:Pr):(knCells o pv a).length=15:=by simp[knCells,opCells]
theorem kcells_len (p:List KE):(kcells p).length=p.length*15:=by
 induction p with
 | nil=>rfl
 | cons q r ih=>
  unfold kcells at ih ⊢;rw[List.flatMap_cons,List.length_append,ih,kn_len,List.length_cons];omega
theorem kcells_at (p:List KE) (i:Nat) (h:i<p.length) (j:Nat) (hj:j<15):(kcells p)[i*15+j]?=(knCells p[i].1.1 p[i].1.2 p[i].2)[j]?:=by
 induction p generalizing i with
 | nil=>simp at h
 | cons q r ih=>
  have e:kcells (q::r)=knCells q.1.1 q.1.2 q.2++kcells r:=by simp[kcells]
  rw[e];cases i with
  | zero=>rw[Nat.zero_mul,Nat.zero_add,List.getElem?_append_left (by rw[kn_len];exact hj)];rfl
  | succ i=>
   rw[List.getElem?_append_right (by rw[kn_len];omega),kn_len,show(i+1)*15+j - 15=i*15+j by omega];exact ih i (by simpa using h)
abbrev RowK (B:Nat) (v:Value) (l:List KE) (w:World):Prop:=w.ownsRow B 131 15 v l.length (kcells l)
def IsKn (w:World) (v:Value) (l:List KE):Prop:=
 ∃a cap,v=.slice a l.length cap∧l.length≤cap∧l.length≤1000000∧(∀q∈l,IsPairs w q.1.2 q.1.1.preds)∧(l≠[]→∃b off,a=some ⟨b,off,none⟩∧b<w.heap.size∧∀i (h:i<l.length) j,j<15→w.cell? ⟨b,off+i*15+j,none⟩=(knCells l[i].1.1 l[i].1.2 l[i].2)[j]?)
theorem IsKn.below {w w':World} {v:Value} {l:List KE} (h:IsKn w v l) (hb:Below w.heap.size w w'):IsKn w' v l:=by
 obtain⟨a,cap,rfl,h1,h2,hr,h3⟩:=h;refine⟨a,cap,rfl,h1,h2,fun q hq=>(hr q hq).below hb,fun hl=>?_⟩;obtain⟨b,off,rfl,h4,h5⟩:=h3 hl;exact⟨b,off,rfl,Nat.lt_of_lt_of_le h4 hb.size,fun i hi j hj=>by rw[hb.cell (p:=⟨b,off+i*15+j,none⟩) h4];exact h5 i hi j hj⟩
theorem RowK.kn {B:Nat} {w:World} {v:Value} {l:List KE} (h:RowK B v l w) (hl:l.length≤1000000) (hr:∀q∈l,IsPairs w q.1.2 q.1.1.preds):IsKn w v l:=by
 rcases h.2 with⟨rfl,h0⟩ | ⟨g,cap,cur,rfl,hg,hh,hc,hm,hz,ht⟩
 ·exact⟨none,0,by rw[h0],by omega,hl,hr,fun h=>absurd (List.length_eq_zero_iff.1 h0) h⟩
 ·refine⟨_,cap,rfl,hc,hl,hr,fun _=>⟨g,0,rfl,lt_of_heap hh,fun i hi j hj=>?_⟩⟩;rw[Nat.zero_add,h.cellAt (i*15+j) (by omega),kcells_at l i hi j hj]
theorem infoK:(Tryz.prog.info? 131).map (fun i=>(i.zero.map (·.cells.size),i.size,decide (i.bytes≤200)))=some (some 15,15,true):=by kernel_rfl
theorem kn_one (o:OpM) (pa:Option Addr) (pn pc:Nat) (a:Pr):∀u∈knCells o (.slice pa pn pc) a,u.oneCell'=true:=by
 intro u hu;simp only[knCells,opCells,List.cons_append,List.nil_append,List.mem_cons,List.not_mem_nil,or_false] at hu;rcases hu with rfl | rfl | rfl | rfl | rfl | rfl | rfl | rfl | rfl | rfl | rfl | rfl | rfl | rfl | rfl <;> rfl
theorem run_appK (ty:TypeId) (W:World) (B:Nat) (hB:B≤W.heap.size) (v:Value) (rs:List KE) (o:OpM) (pa:Option Addr) (pn pc:Nat) (a:Pr) (h:RowK B v rs W) (hl:rs.length≤1000000) (x:Nat) (hx:W.heap[x]?=some (.cells (knCells o (.slice pa pn pc) a).toArray 131)):
 ∃v' W',(Builtin.append_ #[100,100] ty #[v,.slice (some ⟨x,0,none⟩) 1 1]).run Tryz.prog W=.ok v' W'∧RowK B v' (rs++[((o,.slice pa pn pc),a)]) W'∧W.grownBy W' v.ownBlock:=by
 have hi:=infoK;cases hi0:Tryz.prog.info? 131 with
 | none=>rw[hi0] at hi;cases hi
 | some i0=>
  rw[hi0] at hi;simp only[Option.map_some,Option.some.injEq,Prod.mk.injEq] at hi;obtain⟨hz,hs,hb⟩:=hi;obtain⟨z,hz0,hz1⟩:=Option.map_eq_some_iff.1 hz;have hb2:=of_decide_eq_true hb;obtain⟨v',W',h1,h2,h3,_⟩:=run_append_own (P:=Tryz.prog) W B 100 ty 131 i0 z 15 i0.bytes Tryz.underlying100 hi0 hz0 hs rfl hz1 (by decide) v rs.length _ h ⟨x,0,none⟩ 1 1 (knCells o (.slice pa pn pc) a) (kn_len _ _ _) (fun j y hj=>by
   have ea:(⟨x,0,none⟩:Addr).add j=⟨x,j,none⟩:=by unfold Addr.add;split <;> simp_all
   rw[ea];simp[World.cell?,hx,hj]) (kn_one o pa pn pc a) (by unfold maxLen;omega) (Nat.le_trans (Nat.mul_le_mul (show rs.length+1≤1000001 by omega) hb2) (by decide)) hB
  refine⟨v',W',h1,?_,h3⟩;show World.ownsRow _ _ _ _ _ _ _;rw[kcells_append,List.length_append];simpa [kcells] using h2
def LookP (K:List (OpM×Pr)) (a:Pr) (x:Int):Prop:=(x= -1∧lkK K a=none)∨∃k:Nat,x=k∧∃h:k<K.length,K[k].2=a∧lkK K a=some K[k].1
theorem look_none {K:List (OpM×Pr)} {a:Pr} (h:∀j (hj:j<K.length),K[j].2≠a):lkK K a=none:=by
 unfold lkK;have:K.find? (fun p=>p.2==a)=none:=List.find?_eq_none.2 fun x hx e=>by
  obtain⟨j,hj,rfl⟩:=List.getElem_of_mem hx;exact h j hj (by simpa using e)
 rw[this];rfl
theorem look_some {K:List (OpM×Pr)} {a:Pr} {k:Nat} (hk:k<K.length) (he:K[k].2=a) (h:∀j (hj:j<K.length),j<k→K[j].2≠a):lkK K a=some K[k].1:=by
 induction K generalizing k with
 | nil=>simp at hk
 | cons q r ih=>
  unfold lkK;rw[List.find?_cons];cases k with
  | zero=>
   simp only[List.getElem_cons_zero] at he ⊢;rw[show(q.2==a)=true by simpa using he];rfl
  | succ k=>
   have h0:=h 0 (by simp) (by omega);simp only[List.getElem_cons_zero] at h0;rw[show(q.2==a)=false by simpa using h0];simp only[List.getElem_cons_succ] at he ⊢;exact ih (by simpa using hk) he (fun j hj hjk=>by have:=h (j+1) (by simpa using hj) (by omega);simpa using this)
theorem rLook_any (v:Value) (l:List KE) (r:Pr) (w:World) (hv:IsKn w v l):
 Calls Tryz.prog 130 #[v,refV r] w fun e w'=>(∃x,e=.returned (.int .i64 x)∧LookP (keM l) r x)∧Below w.heap.size w w':=by
 obtain⟨a,cap,rfl,h1,h2,hr,h3⟩:=hv;have H3:Hid (l≠[]→∃b off,a=some ⟨b,off,none⟩∧b<w.heap.size∧∀i (h:i<l.length) j,j<15→w.cell? ⟨b,off+i*15+j,none⟩=(knCells l[i].1.1 l[i].1.2 l[i].2)[j]?):=h3;have HZ:Hid (l.length≤1000000):=h2;have b0:=bAl w (.cells #[.int .i64 r.1,.int .i64 r.2] 49);have n0:=heap_alloc_new w (.cells #[.int .i64 r.1,.int .i64 r.2] 49);have HA:=hY2 b0 n0;have HE:=eqD;clear h3 hr h1 h2 b0 n0;go_enter Tryz.func130,Tryz.ntmps130
 go_wp2_with fail;go_loopw [5] (fun i wr=>∃k:Nat,k≤l.length∧i=.int .i64 k∧Hid ((∀j (hj:j<l.length),j<k→l[j].2≠r)∧Below w.heap.size w wr∧wr.heap[w.heap.size]?=some (.cells #[.int .i64 r.1,.int .i64 r.2] 49))) (fun i _=>l.length - (RowKit.intOf i).toNat)
 case atStart=>exact⟨0,Nat.zero_le _,rfl,fun j _ hj=>absurd hj (Nat.not_lt_zero _),HA.out⟩
 case round=>
  obtain⟨k,hk,rfl,hR⟩:=hrel;by_cases hlt:k<l.length
  ·obtain⟨b,off,rfl,h4,h5⟩:=H3.out (fun e=>by rw[e] at hlt;simp at hlt);obtain⟨p,hp⟩:=gNz (l[k].2:Pr);have x0:wr.cell? ⟨b,off+k*15+13,none⟩=some (.int .i64 p.1):=by rw[hR.out.2.1.cell (p:=⟨b,off+k*15+13,none⟩) h4,←hp];exact h5 k hlt 13 (by omega)
   have x1:wr.cell? ⟨b,off+k*15+14,none⟩=some (.int .i64 p.2):=by rw[hR.out.2.1.cell (p:=⟨b,off+k*15+14,none⟩) h4,←hp];exact h5 k hlt 14 (by omega)
   obtain⟨y0,y1,-⟩:=cLs hR.out.2.2;have g1:(k:Int)<l.length:=by omega
   have g2:(k:Int)<1000000:=by have:=HZ.out;omega
   have g3:(0:Int)≤k:=by omega
   have HK:Hid (∃h:k<l.length,l[k].2=p):=⟨hlt,hp⟩
   have HD:Hid (Below w.heap.size w wr.drew∧wr.drew.heap[w.heap.size]?=some (.cells #[.int .i64 r.1,.int .i64 r.2] 49)∧∀j (hj:j<l.length),j<k→l[j].2≠r):=⟨drew_of hR.out.2.1,hR.out.2.2,hR.out.1⟩
   have EQ:=HE p r;obtain⟨sb,hsb⟩:=gNz (samePr p r:Bool);rw[hsb] at EQ;have HS:Hid (samePr p r=sb):=hsb;clear h4 h5 hk hlt hp hR hsb HE;cases sb with
   | true=>
    have HX:Hid (LookP (keM l) r (k:Int)):=by
     obtain⟨h,e⟩:=HK.out;have e1:=(samePr_iff p r).1 HS.out;have hk:k<(keM l).length:=by rw[keM_len];exact h
     have he:(keM l)[k].2=r:=by rw[keM_at];exact e.trans e1
     refine Or.inr ⟨k,rfl,hk,he,look_some hk he (fun j hj hjk=>?_)⟩;rw[keM_at];exact HD.out.2.2 j (by rw[keM_len] at hj;exact hj) hjk
    go_upto_region 4 with fail
    refine rNh (fun W=>W.cell? ⟨b,off+k*15+13,none⟩=some (.int .i64 p.1)∧W.cell? ⟨b,off+k*15+14,none⟩=some (.int .i64 p.2)∧W.cell? ⟨w.heap.size,0,none⟩=some (.int .i64 r.1)∧W.cell? ⟨w.heap.size,1,none⟩=some (.int .i64 r.2)) (⟨x0,x1,y0,y1⟩) (fun hHeld=>?_);refine tk 0 rfl ?_;refine tk 1 rfl ?_;refine tk 2 rfl ?_;refine tk 3 rfl ?_;refine tk 4 rfl ?_;refine tk 5 rfl ?_;refine tk 6 rfl ?_;refine wDn ?_;clear hHeld x0 x1 y0 y1 EQ;generalize wr.drew=WD at *;go_wp2;go_ret;exact⟨⟨_,rfl,HX.out⟩,HD.out.1⟩
   | false=>
    go_upto_region 4 with fail
    refine rNh (fun W=>W.cell? ⟨b,off+k*15+13,none⟩=some (.int .i64 p.1)∧W.cell? ⟨b,off+k*15+14,none⟩=some (.int .i64 p.2)∧W.cell? ⟨w.heap.size,0,none⟩=some (.int .i64 r.1)∧W.cell? ⟨w.heap.size,1,none⟩=some (.int .i64 r.2)) (⟨x0,x1,y0,y1⟩) (fun hHeld=>?_);refine tk 0 rfl ?_;refine tk 1 rfl ?_;refine tk 2 rfl ?_;refine tk 3 rfl ?_;refine tk 4 rfl ?_;refine tk 5 rfl ?_;refine tk 6 rfl ?_;refine wDn ?_;clear hHeld x0 x1 y0 y1 EQ;generalize wr.drew=WD at *;go_wp2;go_roundw
    case rel=>
     obtain⟨h,e⟩:=HK.out;refine⟨k+1,h,by go_num,fun j hj hjk=>?_,HD.out.1,HD.out.2.1⟩;rcases Nat.lt_or_ge j k with h1 | h1
     ·exact HD.out.2.2 j hj h1
     ·obtain rfl:j=k:=by omega
      rw[e];exact samePr_no HS.out
    case measure=>obtain⟨h,_⟩:=HK.out;simp[RowKit.intOf];omega
  ·have hke:k=l.length:=by omega
   have HZ2:Hid (LookP (keM l) r (-1)):=by
    refine Or.inl ⟨rfl,look_none (fun j hj=>?_)⟩;rw[keM_at];rw[keM_len] at hj;exact hR.out.1 j hj (by omega)
   have HB:Hid (Below w.heap.size w wr):=hR.out.2.1;clear hlt hk hR HE;subst hke;go_wp2;go_ret;exact⟨⟨_,rfl,HZ2.out⟩,HB.out⟩
end Go.Proofs.YtamhlgflbacjgaaGreat
