/-
  What is proved: as each theorem says.
  Conditions: as each theorem says.
-/
import Derived.Test.YtamhlgflbacjgaaGreatG00
import Derived.Test.YtamhlgflbacjgaaGreatG37
import Derived.Test.YtamhlgflbacjgaaGreatG30
import Derived.Test.YtamhlgflbacjgaaGreatG48
import Derived.Test.YtamhlgflbacjgaaGreatG19
import Derived.Deep.RegionHeld3
import Derived.Handy
set_option maxRecDepth 100000
set_option maxHeartbeats 16000000
namespace Go.Proofs.YtamhlgflbacjgaaGreat
open Go.RowKit Go.Sort
structure Part (L S:List Chg):Prop where
 sub:∀x∈S,x∈L
 cl:∀x∈S,∀d∈x.deps,d∈refsOf S
theorem Part.refs {L S:List Chg} (P:Part L S) {r:Pr} (h:r∈refsOf S):r∈refsOf L:=by
 obtain⟨c,hc,e⟩:=mem_refs.1 h;exact mem_refs.2 ⟨c,P.sub c hc,e⟩
theorem Part.mem {L S:List Chg} (I:Inv L) (P:Part L S) {x:Chg} (hx:x∈L) (h:x.ref∈refsOf S):x∈S:=by
 obtain⟨y,hy,e⟩:=mem_refs.1 h;rw[←refs_inj I.nd (P.sub y hy) hx e];exact hy
theorem IsBeh.mem {L:List Chg} {hs D E:List Pr} (h:IsBeh L hs D) (hm:∀x,x∈E↔x∈D):IsBeh L hs E:=
 ⟨⟨fun x hx hr=>(hm x).2 (h.cl.1 x hx hr),fun c hc hcD d hd hr=>(hm d).2 (h.cl.2 c hc ((hm _).1 hcD) d hd hr)⟩,fun D' hD' x hx=>h.least D' hD' x ((hm x).1 hx)⟩
theorem Part.up {L S:List Chg} {hs D:List Pr} (I:Inv L) (P:Part L S) (hh:∀d∈hs,d∈refsOf S) (h:IsBeh S hs D):IsBeh L hs D:=by
 refine⟨⟨fun x hx _=>h.cl.1 x hx (hh x hx),fun c hc hcD d hd _=>?_⟩,fun D' hD' x hx=>?_⟩
 ·have hm:=P.mem I hc (h.there _ hcD);exact h.cl.2 c hm hcD d hd (P.cl c hm d hd)
 ·exact h.least D' ⟨fun y hy hr=>hD'.1 y hy (P.refs hr),fun c hc hcD d hd hr=>hD'.2 c (P.sub c hc) hcD d hd (P.refs hr)⟩ x hx
theorem Part.down {L S:List Chg} {hs D:List Pr} (I:Inv L) (P:Part L S) (hh:∀d∈hs,d∈refsOf S) (h:IsBeh L hs D):IsBeh S hs D:=by
 obtain⟨E,hE⟩:=beh_ex S hs;exact hE.mem fun x=>h.same (P.up I hh hE) x
theorem part_pre {L pre post:List Chg} {c:Chg} (I:Inv L) (h:L=pre++c::post):Part L pre:=
 ⟨fun x hx=>by rw[h];exact List.mem_append_left _ hx,fun x hx d hd=>by
  obtain⟨p1,p2,hp⟩:=List.append_of_mem hx;obtain⟨y,hy,e⟩:=mem_refs.1 ((I.fit p1 x (p2++c::post) (by rw[h,hp];simp)).1 d hd);exact mem_refs.2 ⟨y,by rw[hp];exact List.mem_append_left _ hy,e⟩⟩
theorem Inv.pref {L pre post:List Chg} (I:Inv L) (h:L=pre++post):Inv pre:=by
 refine⟨?_,fun c hc=>I.ok c (by rw[h];exact List.mem_append_left _ hc),fun p1 c p2 e=>I.fit p1 c (p2++post) (by rw[h,e];simp)⟩;have:=I.nd;rw[h,refs_append] at this;exact(List.nodup_append.1 this).1
theorem fit_any {L S:List Chg} {c:Chg} (I:Inv L) (F:FInv L) (P:Part L S) (hc:c∈L) (hd:∀d∈c.deps,d∈refsOf S):FitC S c:=by
 obtain⟨pre,post,h⟩:=List.append_of_mem hc;have Q:=part_pre I h;obtain⟨D,hD,h1,h2,h3⟩:=F pre c post h;have hS:=P.down I hd (Q.up I (I.fit pre c post h).1 hD);have key:∀A,Part L A→IsBeh A c.deps D→∀x,x∈subL A D↔x∈L∧x.ref∈D:=fun A PA hA x=>by
  rw[mem_subL];exact⟨fun e=>⟨PA.sub x e.1,e.2⟩,fun e=>⟨PA.mem I e.1 (hA.there _ e.2),e.2⟩⟩
 have same:∀x,x∈subL pre D↔x∈subL S D:=fun x=>(key pre Q hD x).trans (key S P hS x).symm;refine⟨D,hS,h1,fun x hx hr ho=>h2 x (mem_subL.1 ((same x).2 (mem_subL.2 ⟨hx,hr⟩))).1 hr ho,fun i hi=>?_⟩;have e:lkc (subL S D++[cutC c i])=lkc (subL pre D++[cutC c i]):=funext fun a=>
  (lkc_same (fun x=>by rw[List.mem_append,List.mem_append,same x]) (uniq_cut (I.pref h) h2 i) a).symm
 rw[e];exact h3 i hi
theorem AllO.pre {L D A B:List Chg} (h:AllO L D) (e:D=A++B):AllO L A:=by
 refine⟨fun c hc=>h.sub c (by rw[e];exact List.mem_append_left _ hc),?_,fun p1 c p2 hp=>h.ord p1 c (p2++B) (by rw[e,hp];simp)⟩;have:=h.nd;rw[e,refs_append] at this;exact(List.nodup_append.1 this).1
theorem AllO.part {L D:List Chg} (h:AllO L D):Part L D:=
 ⟨h.sub,fun x hx d hd=>by
  obtain⟨p1,p2,hp⟩:=List.append_of_mem hx;obtain⟨y,hy,e⟩:=mem_refs.1 ((h.ord p1 x p2 hp).1.2 d hd);exact mem_refs.2 ⟨y,by rw[hp];exact List.mem_append_left _ hy,e⟩⟩
theorem AllO.all {L D:List Chg} (I:Inv L) (h:AllO L D) (hl:D.length=L.length):∀x∈L,x∈D:=fun x hx=>by
 refine Classical.byContradiction fun hn=>?_;have h1:x.ref∉refsOf D:=fun e=>hn (h.part.mem I hx e);have:=sub_len (L:=x::D) (D:=L) (show(x.ref::refsOf D).Nodup from List.nodup_cons.2 ⟨h1,h.nd⟩) (fun r hr=>by
  rcases List.mem_cons.1 (show r∈x.ref::refsOf D from hr) with e | e
  ·exact mem_refs.2 ⟨x,hx,e.symm⟩
  ·exact h.part.refs e)
 rw[List.length_cons] at this;omega
theorem wsteps_nil:∀(n:Nat) {L L' W':List Chg},WSteps n L [] L' W'→L'=L∧W'=[]
 | 0,_,_,_,h=>h
 | n+1,L,L',W',h=>by
  obtain⟨L1,W1,h1,c,h2,_⟩:=h;obtain⟨rfl,rfl⟩:=wsteps_nil n h1;cases h2.1
theorem take_next {L M pre post:List Chg} {c:Chg} (I:Inv L) (F:FInv L) (A:AllO L M) (e:M=pre++c::post) (hl:M.length≤120) {L' W':List Chg} (h:TakeR pre [] c L' W'):L'=pre++[c]∧W'=[]:=by
 have hc:c∈L:=A.sub c (by rw[e];simp);have h1:=(A.ord pre c post e).1;have h2:=h.take (I.ok c hc) (fun h=>h.elim h1.1 (fun h=>by cases h)) (by rw[e] at hl;simp at hl ⊢;omega) h1.2 (fit_any I F (A.pre e).part hc h1.2);obtain⟨n,h3,_⟩:=h2;exact wsteps_nil n h3
theorem pre_of {pre p1 p2:List Chg} {c y:Chg} (h:pre++[c]=p1++y::p2):∀x∈p1,x∈pre:=by
 intro x hx;rcases List.eq_nil_or_concat p2 with rfl | ⟨q,z,rfl⟩
 ·rw[(List.append_inj' h rfl).1];exact hx
 ·have h2:pre++[c]=(p1++y::q)++[z]:=by rw[h];simp
  rw[(List.append_inj' h2 rfl).1];exact List.mem_append_left _ hx
theorem heads_all {L M:List Chg} {O X:List Pr} (A:AllO L M) (hO:IsHds M O) (hX:IsBeh M O X):∀x,x∈X↔x∈refsOf M:=by
 have key:∀(post pre:List Chg),M=pre++post→∀c∈post,c.ref∈X:=by
  intro post
  induction post with
  | nil=>intro pre _ c hc;cases hc
  | cons a post ih=>
   intro pre h c hc;have h':M=(pre++[a])++post:=by rw[h];simp
   have ih':=ih (pre++[a]) h';rcases List.mem_cons.1 hc with rfl | hc
   ·have hM:c∈M:=by rw[h];simp
    have hr:c.ref∈refsOf M:=mem_refs.2 ⟨c,hM,rfl⟩;by_cases hh:∀y∈M,c.ref∉y.deps
    ·exact hX.cl.1 _ ((hO.2 _).2 ⟨hr,hh⟩) hr
    ·obtain⟨y,hy⟩:=Classical.not_forall.1 hh;obtain⟨hyM,hyd⟩:=Classical.not_imp.1 hy;have hyd2:c.ref∈y.deps:=Classical.not_not.1 hyd;refine hX.cl.2 y hyM ?_ _ hyd2 hr;rw[h'] at hyM;rcases List.mem_append.1 hyM with h1 | h1
     ·exfalso;obtain⟨p1,p2,hp⟩:=List.append_of_mem h1;have h2:=(A.ord p1 y (p2++post) (by rw[h',hp];simp)).1.2 _ hyd2;obtain⟨z,hz,e⟩:=mem_refs.1 h2;exact(A.ord pre c post h).1.1 (mem_refs.2 ⟨z,pre_of hp z hz,e⟩)
     ·exact ih' y h1
   ·exact ih' c hc
 intro x;exact⟨hX.there x,fun hx=>by obtain⟨c,hc,rfl⟩:=mem_refs.1 hx;exact key M [] rfl c hc⟩
theorem head_one {M:List Chg} {O Y:List Pr} {r x:Pr} (hO:IsHds M O) (hr:r∈O) (hY:IsBeh M [r] Y) (hx:x∈O):x∈Y↔x=r:=by
 constructor
 ·intro h;have hc:Closed M [r] ((refsOf M).filter fun z=>decide (z=r∨∃y∈M,z∈y.deps)):=⟨fun z hz hzr=>List.mem_filter.2 ⟨hzr,decide_eq_true (Or.inl (List.mem_singleton.1 hz))⟩,fun c hc _ d hd hdr=>List.mem_filter.2 ⟨hdr,decide_eq_true (Or.inr ⟨c,hc,hd⟩)⟩⟩
  rcases of_decide_eq_true (List.mem_filter.1 (hY.least _ hc x h)).2 with h1 | ⟨y,hy,hd⟩
  ·exact h1
  ·exact absurd hd (((hO.2 x).1 hx).2 y hy)
 ·rintro rfl;exact hY.cl.1 _ (by simp) ((hO.2 _).1 hr).1
theorem ref_ok {c:Chg} (h:chk c=0):refB c.ref=true:=by
 have h1:=chk_few h;unfold refB fromB Chg.ref;simp only[Bool.and_eq_true,decide_eq_true_eq];omega
theorem hds_there {M:List Chg} {O:List Pr} (hO:IsHds M O) (hM:∀c∈M,chk c=0):(∀r∈O,r∈refsOf M)∧O.all refB=true:=by
 refine⟨fun r hr=>((hO.2 r).1 hr).1,List.all_eq_true.2 fun r hr=>?_⟩;obtain⟨c,hc,rfl⟩:=mem_refs.1 ((hO.2 r).1 hr).1;exact ref_ok (hM c hc)
theorem hds_few {M:List Chg} {O:List Pr} (hO:IsHds M O):O.length≤M.length:=by
 have h1:=nodup_len (K:=refsOf M) (rise_nd hO.1) (fun x hx=>((hO.2 x).1 hx).1);unfold refsOf at h1
 rwa [List.length_map] at h1
theorem hds_one {c:Chg} {O:List Pr} (hd:c.deps=[]) (hO:IsHds [c] O):O.length=1:=by
 have e:O=[c.ref]:=rise_ext hO.1 (List.pairwise_singleton _ _) fun x=>by
  rw[hO.2 x];unfold refsOf;simp only[List.map_cons,List.map_nil,List.mem_singleton];constructor
  ·exact fun h=>h.1
  ·intro h;refine⟨h,fun y hy=>?_⟩;rw[hy,hd];simp
 rw[e];rfl
theorem miss_none {M:List Chg} {hs O:List Pr} (hh:∀r∈hs,r∈refsOf M) (h:MissP M [] hs O):O=[]:=by
 refine List.eq_nil_iff_forall_not_mem.2 fun x hx=>?_;obtain⟨h1,h2,_⟩:=(h.mem x).1 hx;rcases h1 with h1 | ⟨y,hy,_⟩
 ·exact h2 (hh x h1)
 ·cases hy
theorem fitsX_any (w:World) (g h q:Nat) (EH EW:List CE) (v:Value) (c:Chg) (B:Bk w g h q EH EW) (hv:IsChgW w v c) (hc:chk c=0) (hd:∀d∈c.deps,d∈EH.map (·.1.ref)) (I:Inv (chgsOf EH)):
 Calls Tryz.prog 35 #[.pointer (some ⟨g,0,none⟩),v] w fun e w'=>(∃b:Bool,e=.returned (.bool b)∧(∀D,IsBeh (chgsOf EH) c.deps D→(b=true↔Fit (chgsOf EH) D c)))∧Below w.heap.size w w':=by
 obtain⟨ud,uo,lo,rfl,hi,hdp,hop,hlo,wd,wo,wq⟩:=id hv;obtain⟨da,dc,rfl,_⟩:=id hdp;obtain⟨oa,oc,rfl,_⟩:=id hop;obtain⟨f12,f40,_,f1,f2,f3⟩:=chk_few hc;have b0:=bAl w (.cells #[.int .i64 c.actor,.int .i64 c.seq,.int .i64 c.start,.slice da c.deps.length dc,.slice oa lo.length oc] 33);have x0:=heap_alloc_new w (.cells #[.int .i64 c.actor,.int .i64 c.seq,.int .i64 c.start,.slice da c.deps.length dc,.slice oa lo.length oc] 33);obtain⟨W0,hW0⟩:∃W0,W0=w.alloc (.cells #[.int .i64 c.actor,.int .i64 c.seq,.int .i64 c.start,.slice da c.deps.length dc,.slice oa lo.length oc] 33):=⟨_,rfl⟩
 rw[←hW0] at b0 x0;have E1:=behind_any W0 g h q EH EW _ c.deps (B.below b0) (hdp.below b0) hd f12;have HA:Hid (Bk W0 g h q EH EW∧IsChgW W0 (.agg #[.int .i64 c.actor,.int .i64 c.seq,.int .i64 c.start,.slice da c.deps.length dc,.slice oa lo.length oc]) c∧IsOps W0 (.slice oa lo.length oc) lo∧lo.map (·.1)=c.ops∧Below w.heap.size w W0∧W0.heap[w.heap.size]?=some (.cells #[.int .i64 c.actor,.int .i64 c.seq,.int .i64 c.start,.slice da c.deps.length dc,.slice oa lo.length oc] 33)∧lo.length≤40∧c.deps.length≤12∧chk c=0∧W0.heap.size=w.heap.size+1∧Wh (.slice oa lo.length oc)):=by
  have hl:=congrArg List.length hlo;rw[List.length_map] at hl;exact⟨B.below b0,hv.below b0,hop.below b0,hlo,b0,x0,by omega,f12,hc,by rw[hW0];simp,wo⟩
 rw[hW0] at E1;obtain⟨PR,HPR⟩:∃P:Bool→Prop,Hid (∀b,P b=(∀D,IsBeh (chgsOf EH) c.deps D→(b=true↔Fit (chgsOf EH) D c))):=⟨_,fun _=>rfl⟩
 simp only[←HPR.out];have HI:=hY3 I hc hd;clear I;obtain⟨ca,hca⟩:=gNz (c.actor);obtain⟨cs,hcs⟩:=gNz (c.seq);obtain⟨ct,hct⟩:=gNz (c.start);have HN:=hY5 hca hcs hct ((by omega):(1≤cs∧cs≤1000000)) ((by omega):(1≤ct∧ct≤1000000));rw[hca,hcs,hct] at HA E1 hW0 ⊢;have HW0:Hid (W0=_):=hW0;clear hW0 b0 x0 B hv hc hd hi hdp hop hlo wd wo wq f12 f40 f1 f2 f3 hca hcs hct;go_enter Tryz.func35,Tryz.ntmps35
 go_wp2_with fail;go_fit E1;rintro e w1 ⟨lv,rfl,hBeh⟩;rw[←HW0.out] at hBeh;clear E1 HW0;obtain⟨D,kD,hrow,hD,hkD,hnd,hmem,hb1⟩:=hBeh;have hes:D.map (entV (ents EH))=(D.map (entE EH)).map (·.2):=by
  rw[List.map_map];exact List.map_congr_left fun r hr=>(entE_of (hmem r hr)).2.2
 rw[hes] at hrow;have hDl:D.length≤120:=by
  have h1:=nodup_len hnd hmem;have h2:=HA.out.1.many;rw[List.length_map] at h1;omega
 have hpc:∀p∈D.map (entE EH),IsChg W0 p.2 p.1:=fun p hp=>by
  obtain⟨r,hr,rfl⟩:=List.mem_map.1 hp;exact(HA.out.1.chgs _ (List.mem_append_left _ (entE_of (hmem r hr)).1)).1.chg
 have hD0:c.deps=[]→D=[]:=fun e=>by
  rw[e] at hD;have h0:depE EH (0,0)=[]:=by
   unfold depE;have:(EH.find? fun p=>p.1.ref==(0,0))=none:=List.find?_eq_none.2 fun p hp=>by
    have h5:=(chk_few (HA.out.1.chgs p (List.mem_append_left _ hp)).2).2.2.2.1;unfold Chg.ref;simp;omega
   rw[this];rfl
  have h1:∀k,behS (depE EH) [] k=[]:=fun k=>by
   induction k with
   | zero=>rfl
   | succ k ih=>unfold behS;rw[ih];simp[h0,addR]
  rw[hD,h1]
 obtain⟨es,hesD⟩:∃es,es=D.map (entE EH):=⟨_,rfl⟩
 rw[←hesD] at hrow hpc;have hel:es.length≤120:=by rw[hesD,List.length_map];exact hDl
 have he0:c.deps=[]→es=[]:=fun e=>by rw[hesD,hD0 e];rfl
 have hmm:∀x,x∈es.map (·.1)↔x∈chgsOf EH∧x.ref∈D:=fun x=>by
  rw[hesD,List.map_map,List.mem_map];constructor
  ·rintro⟨r,hr,rfl⟩;obtain⟨h1,h2,_⟩:=entE_of (hmem r hr);exact⟨mem_chgs.2 ⟨_,h1,rfl⟩,by show(entE EH r).1.ref∈D;rw[h2];exact hr⟩
  ·rintro⟨h1,h2⟩;obtain⟨h3,h4,_⟩:=entE_of (hmem _ h2);exact⟨x.ref,h2,refs_inj HI.out.1.nd (mem_chgs.2 ⟨_,h3,rfl⟩) h1 h4⟩
 have hbe:IsBeh (chgsOf EH) c.deps D:=behS_isBeh HA.out.1.clo (fun p hp=>(HA.out.1.chgs p (List.mem_append_left _ hp)).2) (by have:=HI.out.1.nd;rw[refs_chgs] at this;exact this) hD hkD HI.out.2.2;have FX:Hid (∀b:Bool,(b=true↔(seqM (es.map (·.1)) ca=cs - 1∧numM (es.map (·.1))<ct∧∀i (h:i<c.ops.length),opFitsM (es.map (·.1)++[cutC c i]) c.ops[i]=true))→PR b):=fun b hb=>by
  rw[HPR.out];intro D2 h2;rw[hb];have h3:=fits_iff (cs:=es.map (·.1)) HI.out.1 HI.out.2.1 hbe.there hmm;rw[HN.out.1,HN.out.2.1,HN.out.2.2.1] at h3;rw[h3];exact⟨fun h=>h.same (hbe.same h2),fun h=>h.same (h2.same hbe)⟩
 have hsml:∀x∈es.map toCX,SmallC x.c:=fun x hx=>by
  obtain⟨p,hp,rfl⟩:=List.mem_map.1 hx;have h1:=((hmm p.1).1 (List.mem_map.2 ⟨p,hp,rfl⟩)).1;exact small_of (HI.out.1.ok _ h1)
 have hcx:(es.map toCX).map (·.c)=es.map (·.1):=by rw[List.map_map];rfl
 have hL:=rowC_chgs hrow (by omega) (fun p hp=>(hpc p hp).below hb1);have x1:=heap_below HA.out.2.2.2.2.2.1 hb1 lRf;obtain⟨f0,f1,f2,-⟩:=cLs x1;have bD:=drew_of (Below.refl w1.heap.size w1);have E2:=lastSeqX_any lv (es.map toCX) ca w1.drew (hL.below bD);rw[hcx] at E2;have E3:=fun W (hb:Hid (Below w1.heap.size w1 W))=>lastNumX_any lv (es.map toCX) W (hL.below hb.out) hsml;rw[hcx] at E3;obtain⟨la,ln,lc,rfl⟩:∃a n c,lv=.slice a n c:=by
  rcases hrow.2 with⟨e,_⟩ | ⟨_,_,_,e,_⟩
  ·exact⟨_,_,_,e⟩
  ·exact⟨_,_,_,e⟩
 have HB:=hY6 hrow hpc hel he0 hb1 x1;clear hrow hpc hel he0 hb1 x1 hL bD hes hDl hD0 hesD hD hkD hnd hmem hmm hbe hsml hcx;have z0:=cell_in f0;go_wp2;refine rNh (fun W=>W.cell? ⟨w.heap.size,0,none⟩=some (.int .i64 ca)∧W.cell? ⟨w.heap.size,1,none⟩=some (.int .i64 cs)∧W.cell? ⟨w.heap.size,2,none⟩=some (.int .i64 ct)) ⟨f0,f1,f2⟩ (fun hHeld=>?_);refine tk 0 rfl ?_;refine tk 1 rfl ?_;refine tk 2 rfl ?_;refine tk 4 rfl ?_;refine tk 5 rfl ?_;refine tk 6 rfl ?_;refine wpAnyH_ready (rs:=[3]) (by kernel_rfl) (by simp) (AllReadyH.cons (o:={dst:=some 16,op:=Op.call {callee:=Callee.value (Operand.func 75),args:=#[Operand.tmp 13,Operand.tmp 15],argTypes:=#[23,3]},type:=3,pos := "fits.go:19",after:=#[aD 0,aD 2],guard:=none}) rfl (fun K hK=>?_) AllReadyH.nil);go_simp;go_at_call 75;refine Calls.mono E2 ?_;rintro e w3 ⟨⟨sx,rfl,hsx⟩,hb3⟩;go_wp2_with fail;refine hK.out _ _ (keepF (by assumption) hb3) (fun hHeld3=>?_);clear hK K;try simp only[Act.put,nm]
 refine tk 7 rfl ?_;refine tk 8 rfl ?_;have HE3:Hid (Below w1.heap.size w1 w3):=(drew_of (Below.refl _ w1)).trans hb3;have HS:Hid (I64 sx∧sx=seqM (es.map (·.1)) ca):=hsx;clear hb3 hsx;obtain⟨nb,hnb⟩:=gNz ((sx !=IntKind.i64.wrap (cs - 1)):Bool);rw[hnb];have HNB:Hid _:=hnb;clear hnb;cases nb with
 | true=>
  refine sk 9 rfl ?_;refine sk 10 rfl ?_;refine sk 11 rfl ?_;refine sk 12 rfl ?_;refine sk 13 rfl ?_;refine tk 14 rfl ?_;refine wDn ?_;have HZ:Hid (PR false∧Below w.heap.size w w3):=by
   refine⟨?_,(HA.out.2.2.2.2.1.trans (HB.out.2.2.2.2.1.mono HA.out.2.2.2.2.1.size)).trans (HE3.out.mono (Nat.le_trans HA.out.2.2.2.2.1.size HB.out.2.2.2.2.1.size))⟩;refine FX.out false ⟨(fun h=>by cases h),fun h=>?_⟩;exfalso;have h2:=HNB.out;have h4:IntKind.i64.wrap (cs - 1)=cs - 1:=IntWalk.i64_in _ (by have:=HN.out.2.2.2.1;omega);rw[h4,HS.out.2,h.1] at h2;simp at h2
  clear hHeld hHeld3 E3;go_wp2;go_ret;exact⟨⟨false,rfl,HZ.out.1⟩,HZ.out.2⟩
 | false=>
  refine tk 9 rfl ?_;refine tk 11 rfl ?_;refine tk 12 rfl ?_;refine wpAnyH_ready (rs:=[10]) (by kernel_rfl) (by simp) (AllReadyH.cons (o:={dst:=some 23,op:=Op.call {callee:=Callee.value (Operand.func 76),args:=#[Operand.tmp 22],argTypes:=#[23]},type:=3,pos := "fits.go:19",after:=#[aD 9,aC 8,aG 8],guard:=some (8,false)}) rfl (fun K hK=>?_) AllReadyH.nil);go_simp;go_at_call 76;refine Calls.mono (E3 _ HE3) ?_;rintro e w10 ⟨⟨nx,rfl,hnx⟩,hb10⟩;go_wp2_with fail;refine hK.out _ _ (keepF (by assumption) hb10) (fun hHeld10=>?_);clear hK K;try simp only[Act.put,nm]
  refine tk 13 rfl ?_;refine tk 14 rfl ?_;refine wDn ?_;have HE4:Hid (Below w1.heap.size w1 w10):=HE3.out.trans (hb10.mono HE3.out.size);have HM:Hid (I64 nx∧nx=numM (es.map (·.1))):=hnx;clear hHeld hHeld3 hHeld10 E3 hb10 hnx;have bw:Below w.heap.size w w10:=(HA.out.2.2.2.2.1.trans (HB.out.2.2.2.2.1.mono HA.out.2.2.2.2.1.size)).trans (HE4.out.mono (Nat.le_trans HA.out.2.2.2.2.1.size HB.out.2.2.2.2.1.size));by_cases hge:ct≤nx
  ·have HZ:Hid (PR false∧Below w.heap.size w w10):=by
    refine⟨?_,bw⟩;refine FX.out false ⟨(fun h=>by cases h),fun h=>?_⟩;exfalso;have h1:=HM.out.2;have h2:=h.2.1;omega
   clear bw;go_wp2;go_ret;exact⟨⟨false,rfl,HZ.out.1⟩,HZ.out.2⟩
  ·have hgb:decide (ct≤nx)=false:=by simp[hge]
   have HSQ:Hid (seqM (es.map (·.1)) ca=cs - 1∧numM (es.map (·.1))<ct):=by
    have h2:=HNB.out;have h4:IntKind.i64.wrap (cs - 1)=cs - 1:=IntWalk.i64_in _ (by have:=HN.out.2.2.2.1;omega);rw[h4] at h2;have h5:sx=cs - 1:=by simpa using h2
    exact⟨by rw[←HS.out.2];exact h5,by rw[←HM.out.2];omega⟩
   obtain⟨cv,hcv⟩:∃cv,cv=Value.agg #[.int .i64 ca,.int .i64 cs,.int .i64 ct,.slice da c.deps.length dc,.slice oa lo.length oc]:=⟨_,rfl⟩
   have hCV:CV cv:=by rw[hcv];exact⟨_,_,_,_,_,_,_,_,_,rfl⟩
   have row10:RowC W0.heap.size (.slice la ln lc) (es.map (·.2)) w10:=own_below HB.out.1 HE4.out lRf;have X10:=heap_below HB.out.2.2.2.2.2 HE4.out lRf;have bA:=bAl w10 (.cells (vcells cv).toArray 33);have z10:W0.heap.size≤w10.heap.size:=Nat.le_trans HB.out.2.2.2.2.1.size HE4.out.size;obtain⟨nv,U,happ,hrowU,hgr⟩:=run_appC 23 (w10.alloc (.cells (vcells cv).toArray 33)) W0.heap.size (Nat.le_trans z10 bA.size) (.slice la ln lc) cv (es.map (·.2)) hCV (own_below row10 bA lRf) (by rw[List.length_map];have:=HB.out.2.2.1;omega) w10.heap.size (heap_alloc_new w10 _);have bU:Below W0.heap.size W0 U:=((HB.out.2.2.2.2.1.trans (HE4.out.mono HB.out.2.2.2.2.1.size)).trans (bA.mono z10)).grown hgr (Nat.le_trans z10 bA.size) (fun k e=>(row10.lt k e).1);have hln:ln=es.length:=by
    rcases HB.out.1.2 with⟨e,h0⟩ | ⟨_,_,_,e,_⟩
    ·have:=(Value.slice.inj e).2.1;rw[List.length_map] at h0;omega
    ·have:=(Value.slice.inj e).2.1;rw[List.length_map] at this;exact this
   have HL:Hid (ln=es.length):=hln;obtain⟨gb,gc,rfl,hgb0⟩:∃gb gc,nv=.slice (some ⟨gb,0,none⟩) (ln+1) gc∧W0.heap.size≤gb:=by
    rcases hrowU.2 with⟨e,h0⟩ | ⟨g',c',_,e,hg',_⟩
    ·simp at h0
    ·exact⟨g',c',by rw[e,hln];simp,hg'⟩
   obtain⟨y0,y1,y2,y3,y4,-⟩:=cLs X10;have z1:=lt_of_heap X10;have bU0:U.heap[w.heap.size]?=_:=(bU.block w.heap.size (lt_of_heap HA.out.2.2.2.2.2.1)).trans HA.out.2.2.2.2.2.1;obtain⟨-,-,-,-,u4,-⟩:=cLs bU0;have HU:=hY4 hrowU bU hCV hgb0;rw[hcv] at happ;simp only[vcells] at happ;have HCV:Hid (cv=_):=hcv;clear hCV row10 X10 bA z10 hrowU hgr bU bU0 hln hgb0 hcv bw;go_upto_region 6 with(first | (at_builtin;refine wp_append rfl _ _ 23 rfl _ _ _ _ rfl rfl happ ?_))
   clear y0 y1 y2 y3 y4 z1 happ hge hgb;have zu:=cell_in u4;go_wp2_with fail;go_loopg [37] lo.length (fun gk i wr=>∃(k:Nat) (cx:Value),k+gk=lo.length∧i=.int .i64 k∧Hid ((∃xo,(∃a n e,xo=.slice a n e)∧cx=.agg #[.int .i64 ca,.int .i64 cs,.int .i64 ct,.slice da c.deps.length dc,xo])∧RowC W0.heap.size (.slice (some ⟨gb,0,none⟩) (ln+1) gc) (es.map (·.2)++[cx]) wr∧Below W0.heap.size W0 wr∧∀i (_:i<k) (h:i<c.ops.length),opFitsM (es.map (·.1)++[cutC c i]) c.ops[i]=true))
   case atStart=>exact⟨0,cv,by omega,rfl,⟨_,⟨_,_,_,rfl⟩,HCV.out⟩,HU.out.1,HU.out.2.1,fun i hi=>absurd hi (Nat.not_lt_zero _)⟩
   case round=>
    obtain⟨k,cx,hk,rfl,hR⟩:=hrel;by_cases hlt:k<lo.length
    ·obtain⟨⟨xo,⟨xa,xn,xe,rfl⟩,hcx⟩,hrow,hbel,hfo⟩:=hR.out;have hkc:k<c.ops.length:=by have h8:=congrArg List.length HA.out.2.2.2.1;rw[List.length_map] at h8;omega
     obtain⟨_,_,e9,h9,h10,h11,h12⟩:=HA.out.2.2.1;obtain⟨e9a,e9c,e9b⟩:=Value.slice.inj e9;clear e9 e9c;subst e9a e9b;obtain⟨ob,oo,rfl,hob,hocs⟩:=h12 (fun e=>by rw[e] at hlt;simp at hlt);obtain⟨⟨o,pv⟩,hoq⟩:∃q:OV,lo[k]=q:=⟨_,rfl⟩
     have hpv:=(h11 lo[k] (List.getElem_mem hlt)).1;rw[hoq] at hpv;dsimp only at hpv;obtain⟨pa,pc,rfl,_⟩:=id hpv;have hcs1:∀j,j<13→wr.cell? ⟨ob,oo+k*13+j,none⟩=(opCells o (.slice pa o.preds.length pc))[j]?:=fun j hj=>by rw[hbel.cell (p:=⟨ob,oo+k*13+j,none⟩) hob,hocs k hlt j hj,hoq]
     have p0:wr.cell? ⟨ob,oo+k*13,none⟩=some (.int .i64 o.kind):=hcs1 0 (by decide);have p1:wr.cell? ⟨ob,oo+k*13+1,none⟩=some (.int .i64 o.obj.1):=hcs1 1 (by decide);have p2:wr.cell? ⟨ob,oo+k*13+2,none⟩=some (.int .i64 o.obj.2):=hcs1 2 (by decide);have p3:wr.cell? ⟨ob,oo+k*13+3,none⟩=some (.string o.key):=hcs1 3 (by decide);have p4:wr.cell? ⟨ob,oo+k*13+4,none⟩=some (.int .i64 o.elem.1):=hcs1 4 (by decide);have p5:wr.cell? ⟨ob,oo+k*13+5,none⟩=some (.int .i64 o.elem.2):=hcs1 5 (by decide);have p6:wr.cell? ⟨ob,oo+k*13+6,none⟩=some (.bool o.ins):=hcs1 6 (by decide);have p7:wr.cell? ⟨ob,oo+k*13+7,none⟩=some (.int .i64 o.val.k):=hcs1 7 (by decide);have p8:wr.cell? ⟨ob,oo+k*13+8,none⟩=some (.int .i64 o.val.n):=hcs1 8 (by decide);have p9:wr.cell? ⟨ob,oo+k*13+9,none⟩=some (.string o.val.t):=hcs1 9 (by decide);have p10:wr.cell? ⟨ob,oo+k*13+10,none⟩=some (.int .i64 o.val.o):=hcs1 10 (by decide);have p11:wr.cell? ⟨ob,oo+k*13+11,none⟩=some (.int .i64 o.val.a):=hcs1 11 (by decide);have p12:wr.cell? ⟨ob,oo+k*13+12,none⟩=some (.slice pa o.preds.length pc):=hcs1 12 (by decide);have X:=(hbel.block w.heap.size (lt_of_heap HA.out.2.2.2.2.2.1)).trans HA.out.2.2.2.2.2.1;obtain⟨-,-,-,-,x4,-⟩:=cLs X;have zx:=lt_of_heap X;have hcvs:∀u∈es.map (·.2)++[cx],CV u:=fun u hu=>by
      rcases List.mem_append.1 hu with e | e
      ·obtain⟨p,hp,rfl⟩:=List.mem_map.1 e;exact(toCX_val (HB.out.2.1 p hp)).2.2.1
      ·rw[List.mem_singleton.1 e,hcx];exact⟨_,_,_,_,_,_,_,_,_,rfl⟩
     have hlen:(es.map (·.2)++[cx]).length=ln+1:=by simp[HL.out]
     have hp4:wr.cell? ⟨gb,ln*5+4,none⟩=some (.slice xa xn xe):=by
      have hrow':wr.ownsRow W0.heap.size 33 5 (.slice (some ⟨gb,0,none⟩) (ln+1) gc) (ln+1) ((es.map (·.2)++[cx]).flatMap vcells):=by
       have:=hrow;unfold RowC at this;rw[hlen] at this;exact this
      have:=hrow'.cellAt (ln*5+4) (by omega);rw[flat_at hcvs ln (by rw[hlen];omega) 4 (by omega)] at this;rw[this,List.getElem_append_right (by simp[HL.out])];simp[HL.out,hcx,vcells]
     obtain⟨gcur,hgcur⟩:∃cur,wr.heap[gb]?=some (.cells cur 33):=by
      rcases hrow.2 with⟨e,_⟩ | ⟨g',c',cur,e,_,hh,_⟩
      ·cases e
      ·have e1:=(Value.slice.inj e).1;have:gb=g':=by have:=Option.some.inj e1;simpa using this
       subst this;exact⟨cur,hh⟩
     have zg:=lt_of_heap hgcur;have bN:=bAl wr (.cells (opA o o.ins (.slice pa o.preds.length pc)) 62);have ff:=fRz (heap_below hgcur bN lRf);have zW:W0.heap.size≤wr.heap.size:=hbel.size;have bS:Below W0.heap.size W0 (wr.setCell ⟨gb,ln*5+4,none⟩ (.slice (some ⟨ob,oo,none⟩) k oc)):=hbel.setCell (p:=⟨gb,ln*5+4,none⟩) (show W0.heap.size≤gb from HU.out.2.2.2) _;have rowS:=rowC_set (k:=ln) hrow hcvs (by rw[hlen];omega) (.agg #[.int .i64 ca,.int .i64 cs,.int .i64 ct,.slice da c.deps.length dc,.slice (some ⟨ob,oo,none⟩) k oc]) (.slice (some ⟨ob,oo,none⟩) k oc) (by rw[List.getElem_append_right (by simp[HL.out])];simp[HL.out,hcx,vcells]);have sz:(wr.setCell ⟨gb,ln*5+4,none⟩ (.slice (some ⟨ob,oo,none⟩) k oc)).heap.size=wr.heap.size:=by simp
     have bN2:=(Below.refl (wr.setCell ⟨gb,ln*5+4,none⟩ (.slice (some ⟨ob,oo,none⟩) k oc)).heap.size (wr.setCell ⟨gb,ln*5+4,none⟩ (.slice (some ⟨ob,oo,none⟩) k oc))).alloc lRf (.cells (opA o o.ins (.slice pa o.preds.length pc)) 62);have row2:=own_below rowS bN2 lRf;have bel2:=bS.trans (bN2.mono bS.size);have N2:=heap_alloc_new (wr.setCell ⟨gb,ln*5+4,none⟩ (.slice (some ⟨ob,oo,none⟩) k oc)) (.cells (opA o o.ins (.slice pa o.preds.length pc)) 62);rw[sz] at N2;have hset:(es.map (·.2)++[cx]).set ln (.agg #[.int .i64 ca,.int .i64 cs,.int .i64 ct,.slice da c.deps.length dc,.slice (some ⟨ob,oo,none⟩) k oc])=(es++[(({c with ops:=c.ops.take k}:Chg),Value.agg #[.int .i64 ca,.int .i64 cs,.int .i64 ct,.slice da c.deps.length dc,.slice (some ⟨ob,oo,none⟩) k oc])]:List CE).map (fun p:CE=>p.2):=by
      rw[List.set_append_right _ _ (by simp[HL.out]),List.map_append];simp[HL.out]
     change RowC _ _ _ _ at row2;rw[hset] at row2;have hIs:∀p∈es++[(({c with ops:=c.ops.take k}:Chg),Value.agg #[.int .i64 ca,.int .i64 cs,.int .i64 ct,.slice da c.deps.length dc,.slice (some ⟨ob,oo,none⟩) k oc])],IsChg W0 p.2 p.1:=fun p hp=>by
      rcases List.mem_append.1 hp with e | e
      ·exact HB.out.2.1 p e
      ·rw[List.mem_singleton.1 e];obtain⟨ud',uo',lo',e1,e2,e3,_⟩:=HA.out.2.1;simp at e1;obtain⟨_,_,_,rfl,rfl⟩:=e1;refine⟨_,_,lo.take k,?_,e2.1,e2.2.1,e2.2.2,e3,ops_take HA.out.2.2.1 k (by omega),?_⟩
       ·simp[HN.out.1,HN.out.2.1,HN.out.2.2.1]
       ·rw[List.map_take,HA.out.2.2.2.1]
     have hL2:=rowC_chgs row2 (by rw[List.length_append];have:=HB.out.2.2.1;simp;omega) (fun p hp=>(hIs p hp).below bel2);have E5:=opFits_any _ (.slice pa o.preds.length pc) _ o _ hL2 (hpv.below bel2);simp only[opVal,opCells] at E5;obtain⟨ob5,hob5⟩:=gNz (opFitsM ((es++[(({c with ops:=c.ops.take k}:Chg),Value.agg #[.int .i64 ca,.int .i64 cs,.int .i64 ct,.slice da c.deps.length dc,.slice (some ⟨ob,oo,none⟩) k oc])]).map toCX |>.map (·.c)) o:Bool);rw[hob5] at E5;have HOB:Hid ((∃hz:k<c.ops.length,opFitsM (es.map (·.1)++[cutC c k]) (c.ops[k]'hz)=ob5)∧(∀i (_:i<k) (h:i<c.ops.length),opFitsM (es.map (·.1)++[cutC c i]) c.ops[i]=true)∧k<c.ops.length):=by
      refine⟨⟨hkc,?_⟩,hfo,hkc⟩;have e8:c.ops[k]=o:=by
       have h8:(lo.map (·.1))[k]'(by rw[List.length_map];exact hlt)=o:=by rw[List.getElem_map,hoq]
       rw[←h8];simp only[HA.out.2.2.2.1]
      rw[e8,←hob5,List.map_map,List.map_append];rfl
     clear hfo;have g1:(k:Int)<lo.length:=by omega
     have g2:(k:Int)<1000000:=by have:=HA.out.2.2.2.2.2.2.1;omega
     have g3:(ln:Int)<1000000:=by have:=HL.out;have:=HB.out.2.2.1;omega
     have HK:=hY3 hk hlt ((by omega):k≤oc);have g4:(k:Int)≤oc:=by omega
     have row2':RowC W0.heap.size (.slice (some ⟨gb,0,none⟩) (ln+1) gc) (es.map (·.2)++[Value.agg #[.int .i64 ca,.int .i64 cs,.int .i64 ct,.slice da c.deps.length dc,.slice (some ⟨ob,oo,none⟩) k oc]]) ((wr.setCell ⟨gb,ln*5+4,none⟩ (.slice (some ⟨ob,oo,none⟩) k oc)).alloc (.cells (opA o o.ins (.slice pa o.preds.length pc)) 62)):=by
      have:=row2;rw[List.map_append] at this;exact this
     have HF:=hY3 row2' bel2 N2;clear hR hcx hrow hbel h9 h10 h11 h12 hob hocs hoq hpv hcs1 X hcvs hlen hgcur bN zW bS rowS sz bN2 row2 row2' bel2 N2 hset hIs hL2 hob5 hk hlt hkc;have HE5:Hid _:=E5;clear E5;go_upto_region 10 with fail
     obtain⟨rw2,bl2,n2⟩:=HF.out;have E5:Calls _ _ _ _ _:=HE5.out;clear HF HE5 p0 p1 p2 p3 p4 p5 p6 p7 p8 p9 p10 p11 p12 x4 hp4 ff zx zg g4;generalize ((wr.setCell ⟨gb,ln*5+4,none⟩ (.slice (some ⟨ob,oo,none⟩) k oc)).alloc (.cells (opA o o.ins (.slice pa o.preds.length pc)) 62))=W2 at *;obtain⟨q0,q1,q2,q3,q4,q5,q6,q7,q8,q9,q10,q11,q12,-⟩:=cLs n2;have zn:=lt_of_heap n2;have HF:=hY2 rw2 bl2;clear rw2 bl2 n2;cases ob5 with
     | false=>
      go_wp2_with fail;go_fit E5;rintro e w5 ⟨rfl,b5⟩;have HZ:Hid (PR false∧Below w.heap.size w w5):=by
       refine⟨?_,HA.out.2.2.2.2.1.trans ((HF.out.2.trans (b5.mono HF.out.2.size)).mono HA.out.2.2.2.2.1.size)⟩;refine FX.out false ⟨(fun h=>by cases h),fun h=>?_⟩;obtain⟨hz,h8⟩:=HOB.out.1;have h9:=h.2.2 k hz;rw[h8] at h9;exact h9
      clear b5 E5 q0 q1 q2 q3 q4 q5 q6 q7 q8 q9 q10 q11 q12 zn;go_wp2;go_ret;first | exact⟨⟨false,rfl,HZ.out.1⟩,HZ.out.2⟩ | exact⟨Or.inl ⟨rfl,HZ.out.1⟩,HZ.out.2⟩ | exact⟨Or.inl HZ.out.1,HZ.out.2⟩ | exact⟨Or.inr ⟨rfl,HZ.out.1⟩,HZ.out.2⟩
     | true=>
      go_wp2_with fail;go_fit E5;rintro e w5 ⟨rfl,b5⟩;have HF5:=hY2 (own_below HF.out.1 b5 lRf) (HF.out.2.trans (b5.mono HF.out.2.size));clear b5 E5 q0 q1 q2 q3 q4 q5 q6 q7 q8 q9 q10 q11 q12 zn;go_wp2;go_roundg (gk - 1)
      case measure=>have:=HK.out;omega
      case rel=>exact⟨k+1,_,by have:=HK.out;omega,by first | rfl | go_num | (congr 1;unfold wrap64;have:=HK.out;omega),⟨_,⟨_,_,_,rfl⟩,rfl⟩,HF5.out.1,HF5.out.2,fun i hi h=>by
       by_cases hik:i=k
       ·subst hik;obtain⟨_,h8⟩:=HOB.out.1;exact h8
       ·exact HOB.out.2.1 i (by omega) h⟩
    ·have hke:k=lo.length:=by omega
     have g1:¬(k:Int)<lo.length:=by omega
     have HZ:Hid (PR true∧Below w.heap.size w wr):=by
      refine⟨?_,HA.out.2.2.2.2.1.trans (hR.out.2.2.1.mono HA.out.2.2.2.2.1.size)⟩;have h8:=congrArg List.length HA.out.2.2.2.1;rw[List.length_map] at h8;exact FX.out true ⟨fun _=>⟨HSQ.out.1,HSQ.out.2,fun i hi=>hR.out.2.2.2 i (by omega) hi⟩,fun _=>rfl⟩
     clear hlt hk hke hR;go_wp2;go_ret;first | exact⟨⟨true,rfl,HZ.out.1⟩,HZ.out.2⟩ | exact⟨Or.inr ⟨rfl,HZ.out.1⟩,HZ.out.2⟩ | exact⟨Or.inl ⟨rfl,HZ.out.1⟩,HZ.out.2⟩ | exact⟨Or.inr HZ.out.1,HZ.out.2⟩
end Go.Proofs.YtamhlgflbacjgaaGreat
