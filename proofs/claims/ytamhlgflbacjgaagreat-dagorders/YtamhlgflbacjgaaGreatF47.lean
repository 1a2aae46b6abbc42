/-
  What is proved: as each theorem says.
  Conditions: as each theorem says.
-/
import Derived.Test.YtamhlgflbacjgaaGreatF00
import Derived.Test.YtamhlgflbacjgaaGreatF46
import Derived.Test.YtamhlgflbacjgaaGreatF24
import Derived.Laws.EntriesVeiled
import Derived.Maps.RangeWalk
import Derived.Test.YtamhlgflbacjgaaGreatF12
import Derived.Test.YtamhlgflbacjgaaGreatF23
set_option maxRecDepth 100000
set_option maxHeartbeats 16000000
namespace Go.Proofs.YtamhlgflbacjgaaGreat
open Go.RowKit Go.Maps
structure AllSt (w:World) (B1:Nat) (g h q:Nat) (EH EW:List CE) (ts:List Pr) (k:Nat) (D rest:List Pr) (es:List CE) (lv rv:Value) (wr:World):Prop where
 A:AllIn wr g h q w.heap.size (w.heap.size+2) (w.heap.size+1) (w.heap.size+3) EH EW D
 ok:OrdOk EH D rest
 ord:ordN EH ts k=(D,rest)
 rr:RowPr 45 (w.heap.size+4) rv rest wr
 rl:RowC (w.heap.size+4) lv (es.map (·.2)) wr
 hi:∀p∈es,IsChgH B1 wr p.2 p.1∧chk p.1=0∧∃u,(p.1,u)∈EH
 refs:es.map (·.1.ref)=D
 rb:∀b,rv.ownBlock=some b→b<B1
 bel:Below w.heap.size w wr
 z:B1≤wr.heap.size
 z1:w.heap.size+4≤B1
theorem AllSt.below {w:World} {B1 g h q:Nat} {EH EW:List CE} {ts:List Pr} {k:Nat} {D rest:List Pr} {es:List CE} {lv rv:Value} {wr V:World} (S:AllSt w B1 g h q EH EW ts k D rest es lv rv wr) (b:Below wr.heap.size wr V):AllSt w B1 g h q EH EW ts k D rest es lv rv V:=
 ⟨S.A.below b,S.ok,S.ord,own_below S.rr b lRf,own_below S.rl b lRf,fun p hp=>⟨(S.hi p hp).1.below b,(S.hi p hp).2⟩,S.refs,S.rb,S.bel.trans (b.mono S.bel.size),Nat.le_trans S.z b.size,S.z1⟩
def AllP (w:World) (EH:List CE) (lv:Value) (w':World):Prop:=
 ∃(ts D:List Pr) (es:List CE),ts.Perm (EH.map (·.1.ref))∧Rise ts∧ordN EH ts ts.length=(D,[])∧OrdOk EH D []∧es.map (·.1.ref)=D∧RowC w.heap.size lv (es.map (·.2)) w'∧(∀p∈es,IsChgW w' p.2 p.1∧chk p.1=0∧∃u,(p.1,u)∈EH)∧Below w.heap.size w w'
theorem keepL {w W W':World} {g h gr i:Nat} {r:Pr} {L:List (Pr×Value)} (hh:W.cell? ⟨w.heap.size,0,none⟩=some (.pointer (some ⟨g,0,none⟩))∧W.cell? ⟨g,0,none⟩=some (.map (some h))∧W.cell? ⟨gr,i*2,none⟩=some (.int .i64 r.1)∧W.cell? ⟨gr,i*2+1,none⟩=some (.int .i64 r.2)∧MapL W h L) (hb:Below W.heap.size W W'):W'.cell? ⟨w.heap.size,0,none⟩=some (.pointer (some ⟨g,0,none⟩))∧W'.cell? ⟨g,0,none⟩=some (.map (some h))∧W'.cell? ⟨gr,i*2,none⟩=some (.int .i64 r.1)∧W'.cell? ⟨gr,i*2+1,none⟩=some (.int .i64 r.2)∧MapL W' h L:=by
 obtain⟨h0,h1,h2,h3,h4⟩:=hh;exact⟨(hb.cell (cell_in h0)).trans h0,(hb.cell (cell_in h1)).trans h1,(hb.cell (cell_in h2)).trans h2,(hb.cell (cell_in h3)).trans h3,h4.below hb⟩
theorem keepG {w W W':World} {g h gr i:Nat} {r:Pr} {L:List (Pr×Value)} {row:Option Nat} (hh:W.cell? ⟨w.heap.size,0,none⟩=some (.pointer (some ⟨g,0,none⟩))∧W.cell? ⟨g,0,none⟩=some (.map (some h))∧W.cell? ⟨gr,i*2,none⟩=some (.int .i64 r.1)∧W.cell? ⟨gr,i*2+1,none⟩=some (.int .i64 r.2)∧MapL W h L) (hg:W.grownBy W' row) (n0:some w.heap.size≠row) (n1:some g≠row) (n2:some gr≠row) (n3:some h≠row):W'.cell? ⟨w.heap.size,0,none⟩=some (.pointer (some ⟨g,0,none⟩))∧W'.cell? ⟨g,0,none⟩=some (.map (some h))∧W'.cell? ⟨gr,i*2,none⟩=some (.int .i64 r.1)∧W'.cell? ⟨gr,i*2+1,none⟩=some (.int .i64 r.2)∧MapL W' h L:=by
 obtain⟨h0,h1,h2,h3,h4⟩:=hh;have kc:∀{b o:Nat} {v:Value},W.cell? ⟨b,o,none⟩=some v→some b≠row→W'.cell? ⟨b,o,none⟩=some v:=fun {b o v} hc hn=>by
  have:=hg.block b (cell_in hc) hn;unfold World.cell? at hc ⊢;rw[this];exact hc
 exact⟨kc h0 n0,kc h1 n1,kc h2 n2,kc h3 n2,h4.grown hg n3⟩
theorem all_any (w:World) (g h q:Nat) (EH EW:List CE) (B:Bk w g h q EH EW):
 Calls Tryz.prog 8 #[.pointer (some ⟨g,0,none⟩)] w fun e w'=>∃lv,e=.returned lv∧AllP w EH lv w':=by
 have hmm:=@run_makeMap Tryz.prog;obtain⟨W0,hW0⟩:∃W0,W0=(((w.alloc (.cells #[.pointer (some ⟨g,0,none⟩)] 25)).alloc (.map #[] 0)).alloc (.cells #[.map (some (w.heap.size+1))] 86)).alloc (.cells #[.func (Fn.func 37) #[] #[.pointer (some ⟨w.heap.size+2,0,none⟩)]] 87):=⟨_,rfl⟩
 have b0:Below w.heap.size w W0:=by rw[hW0];exact(((bAl _ _).alloc (by simp) _).alloc (by simp;omega) _).alloc (by simp;omega) _
 have hs0:W0.heap.size=w.heap.size+4:=by rw[hW0];simp
 have A0:AllIn W0 g h q w.heap.size (w.heap.size+2) (w.heap.size+1) (w.heap.size+3) EH EW []:=by
  have M1:=MapL.made (w.alloc (.cells #[.pointer (some ⟨g,0,none⟩)] 25));rw[show(w.alloc (.cells #[.pointer (some ⟨g,0,none⟩)] 25)).heap.size=w.heap.size+1 from by simp] at M1;have n2:=heap_alloc_new ((w.alloc (.cells #[.pointer (some ⟨g,0,none⟩)] 25)).alloc (.map #[] 0)) (.cells #[.map (some (w.heap.size+1))] 86);rw[show((w.alloc (.cells #[.pointer (some ⟨g,0,none⟩)] 25)).alloc (.map #[] 0)).heap.size=w.heap.size+2 from by simp] at n2;have n3:=heap_alloc_new (((w.alloc (.cells #[.pointer (some ⟨g,0,none⟩)] 25)).alloc (.map #[] 0)).alloc (.cells #[.map (some (w.heap.size+1))] 86)) (.cells #[.func (Fn.func 37) #[] #[.pointer (some ⟨w.heap.size+2,0,none⟩)]] 87);rw[show(((w.alloc (.cells #[.pointer (some ⟨g,0,none⟩)] 25)).alloc (.map #[] 0)).alloc (.cells #[.map (some (w.heap.size+1))] 86)).heap.size=w.heap.size+3 from by simp] at n3;refine⟨B.below b0,?_,?_,?_,?_⟩
  ·rw[hW0];exact heap_alloc_old (heap_alloc_old (heap_alloc_old (heap_alloc_new w _) _) _) _
  ·rw[hW0];exact heap_alloc_old n2 _
  ·rw[hW0];exact(M1.below (bAl _ _)).below (bAl _ _)
  ·rw[hW0];exact n3
 have E0:=risingKeys_any h (ents EH) W0 A0.bk.book.has (by rw[ents_len];have:=B.many;omega);have c0:W0.cell? ⟨w.heap.size,0,none⟩=some (.pointer (some ⟨g,0,none⟩)):=cLo A0.bx 0;have c1:W0.cell? ⟨g,0,none⟩=some (.map (some h)):=cLo A0.bk.book.box 0;have H0:=hY3 A0 b0 hs0;have HB:Hid (Bk w g h q EH EW):=B;rw[hW0] at E0 c0 c1;have HW:Hid _:=hW0;clear A0 b0 hs0 B hW0;go_enter Tryz.func8,Tryz.ntmps8
 go_wp2_with fail;go_fit E0;rintro e w1 ⟨v,ts,rfl,t1,t2,t3,t4⟩;rw[←HW.out] at t3 t4;clear E0 c0 c1 HW;obtain⟨ra0,rn0,rc0,rfl⟩:∃a n c,v=.slice a n c:=by
  rcases t3.2 with⟨e,_⟩ | ⟨_,_,_,e,_⟩
  ·exact⟨_,_,_,e⟩
  ·exact⟨_,_,_,e⟩
 have hrn:rn0=ts.length:=by
  rcases t3.2 with⟨e,h0⟩ | ⟨_,_,_,e,_⟩
  ·have:=(Value.slice.inj e).2.1;omega
  ·exact(Value.slice.inj e).2.1
 subst hrn;have S0:AllSt w w1.heap.size g h q EH EW ts 0 [] ts [] (.slice none 0 0) (.slice ra0 ts.length rc0) w1:=by
  rw[ents_keys] at t1;refine⟨H0.out.1.below t4,⟨by simpa using t1,fun pre r post e=>by simp at e⟩,rfl,by rw[←H0.out.2.2];exact t3,World.ownsRow_nil _ _ _ _,by simp,rfl,fun b hb=>(t3.lt b hb).2,H0.out.2.1.trans (t4.mono H0.out.2.1.size),lRf,by rw[←H0.out.2.2];exact t4.size⟩
 have HT:Hid (ts.Perm (EH.map (·.1.ref))∧Rise ts∧ts.length≤120):=by
  rw[ents_keys] at t1;refine⟨t1,t2,?_⟩;have:=t1.length_eq;rw[List.length_map] at this;have:=HB.out.many;omega
 have HS0:Hid _:=S0;obtain⟨B1,hB1⟩:=gNz (w1.heap.size);rw[hB1] at HS0;clear t1 t2 t3 t4 S0 H0 hB1;have eg:∀args w,(callFunc 38 args).run Tryz.prog w=.ok (.enter 38 args) w:=enters_of Tryz.func38 (by kernel_rfl) rfl;have EG:Hid (∀args w,(callFunc 38 args).run Tryz.prog w=.ok (.enter 38 args) w):=eg;clear eg;go_wp2_with fail;go_loopg [3,7,19] ts.length (fun gk lv rv i wr=>∃(k:Nat) (D rest:List Pr) (es:List CE),k+gk=ts.length∧i=.int .i64 k∧Hid (AllSt w B1 g h q EH EW ts k D rest es lv rv wr))
 case atStart=>exact⟨0,[],ts,[],by omega,rfl,HS0.out⟩
 case round=>
  clear HS0;obtain⟨k,D,rest,es,hk,rfl,hS⟩:=hrel;obtain⟨lv0,hlv0⟩:∃z,z=u3:=⟨_,rfl⟩
  subst hlv0;have hDl:D.length=k:=by
   have:∀j,(ordN EH ts j).1.length=j:=fun j=>by
    induction j with
    | zero=>rfl
    | succ j ih=>unfold ordN ordStep;simp[ih]
   have h1:=this k;rw[hS.out.ord] at h1;exact h1
  have hrl:D.length+rest.length=ts.length:=by
   have h1:=hS.out.ok.perm.length_eq;have h2:=HT.out.1.length_eq;rw[List.length_append] at h1;omega
  by_cases hlt:k<ts.length
  ·have hne:rest≠[]:=fun e=>by rw[e] at hrl;simp at hrl;omega
   obtain⟨i,hidx,hir,hib⟩:=hS.out.ok.next HB.out.clo hne;obtain⟨gr,rc,rfl⟩:∃gr rc,u7=.slice (some ⟨gr,0,none⟩) rest.length rc:=by
    rcases hS.out.rr.2 with⟨_,h0⟩ | ⟨gr,rc,_,e,_⟩
    ·exact absurd (List.length_eq_zero_iff.1 h0) hne
    ·exact⟨gr,rc,e⟩
   have hkeys:∀r∈rest,r∈EH.map (·.1.ref):=fun r hr=>hS.out.ok.perm.mem_iff.1 (List.mem_append_right _ hr);have h64s:∀r∈rest,R64 r:=fun r hr=>by
    have:=hkeys r hr;rw[←ents_keys] at this;obtain⟨y,hy,rfl⟩:=List.mem_map.1 this;exact HB.out.book.has.r64 y hy
   have hIP:IsPairs wr (.slice (some ⟨gr,0,none⟩) rest.length rc) rest:=RowPr.pairs hS.out.rr (by have:=HT.out.2.2;omega) h64s;have E1:=idx2_any 38 EG.out (.pointer (some ⟨w.heap.size,0,none⟩)) (.pointer (some ⟨w.heap.size+3,0,none⟩)) (nextB EH D) _ rest wr hIP (fun r hr W hb=>mayBe_any W g h q w.heap.size (w.heap.size+2) (w.heap.size+1) (w.heap.size+3) EH EW D r (hS.out.A.below hb) (hkeys r hr));rw[hidx] at E1;have HK:=hY3 hk hlt hir;have HI:Hid (∃hi:i<rest.length,nextB EH D rest[i]=true):=⟨hir,hib⟩
   have HX:Hid (idxP (nextB EH D) rest=i):=hidx;have g1:(k:Int)<ts.length:=by omega
   have g2:(k:Int)<1000000:=by have:=HT.out.2.2;omega
   have g3:(i:Int)<rest.length:=by omega
   have g4:(i:Int)<1000000:=by have:=HT.out.2.2;omega
   have hr64:=h64s rest[i] (List.getElem_mem hir);have hrk:=hkeys rest[i] (List.getElem_mem hir);obtain⟨r,hr⟩:=gNz (rest[i]);have HR:Hid (∀hi:i<rest.length,rest[i]=r):=fun _=>hr;rw[hr] at hr64 hrk;clear hDl hrl hlt hk hne hidx hir hib hkeys h64s hIP hr;go_wp2_with fail;go_fit E1;rintro e w2 ⟨rfl,b2⟩;have S2:=hS.out.below b2;clear E1 hS b2;have SD:=S2.below (drew_of (Below.refl w2.heap.size w2));have c0:w2.cell? ⟨w.heap.size+2,0,none⟩=some (.map (some (w.heap.size+1))):=cLo S2.A.tb 0;have z0:=lt_of_heap S2.A.tb;have hcell:∀{W:World},RowPr 45 (w.heap.size+4) (.slice (some ⟨gr,0,none⟩) rest.length rc) rest W→W.cell? ⟨gr,i*2,none⟩=some (.int .i64 r.1)∧W.cell? ⟨gr,i*2+1,none⟩=some (.int .i64 r.2):=fun {W} hrow=>by
    have h1:=pcells_at rest i HK.out.2.2;rw[HR.out HK.out.2.2] at h1;exact⟨by rw[hrow.cellAt (i*2) (by have:=HK.out;omega)];exact h1.1,by rw[hrow.cellAt (i*2+1) (by have:=HK.out;omega)];exact h1.2⟩
   have x0:=(hcell S2.rr).1;have x1:=(hcell S2.rr).2;have zr:=cell_in x0;obtain⟨V,hput,hM,ht⟩:=SD.A.mp.put Tryz.underlying86 hr64 (by have h1:=SD.ok.perm.length_eq;have h2:=HB.out.many;rw[List.length_append,List.length_map] at h1;rw[List.length_map];omega) (.int .i64 1);have hrD:r∉D:=by
    have hn:=SD.ok.perm.nodup_iff.2 (nodup_ents HB.out).1;rw[←HR.out HK.out.2.2];exact fun e=>(List.nodup_append.1 hn).2.2 _ e _ (List.getElem_mem HK.out.2.2) rfl
   have hM2:MapL V (w.heap.size+1) ((D++[r]).map fun r=>(r,(.int .i64 1:Value))):=by
    rw[putL_new (by rw[lk_ones,if_neg hrD])] at hM;simpa using hM
   have kp:=Kp.turned ht;have nc:NoCells w2.drew [w.heap.size+1]:=noCells_map SD.A.mp;have nq:∀{b:Nat} {cs:Array Value} {T:TypeId} {y:Value},w2.drew.heap[b]?=some (.cells cs T)→cs[0]?=some y→b∉[w.heap.size+1]:=fun {b cs T y} hb hy e=>by
    have h1:=nc b e 0;simp[World.cell?,hb,hy] at h1
   have hmb:∀b,MapL w2.drew b (ents EH)∨MapL w2.drew b (ents EW)→b<w.heap.size→b∉[w.heap.size+1]:=fun b _ hb e=>by simp at e;omega
   have bkV:Bk V g h q EH EW:=HB.out.below (SD.bel.trans (kp.below (B:=w.heap.size) (by simp) SD.bel.size));have AV:AllIn V g h q w.heap.size (w.heap.size+2) (w.heap.size+1) (w.heap.size+3) EH EW (D++[r]):=⟨bkV,kp.heap SD.A.bx (nq SD.A.bx rfl),kp.heap SD.A.tb (nq SD.A.tb rfl),hM2,kp.heap SD.A.fb (nq SD.A.fb rfl)⟩
   have gT:=ht.grown;have rrV:=SD.rr.kept gT (Or.inr (fun e=>by have:=(SD.rr.lt _ e).1;omega));have rlV:=SD.rl.kept gT (Or.inr (fun e=>by have:=(SD.rl.lt _ e).1;omega));have hiV:∀p∈es,IsChgH B1 V p.2 p.1∧chk p.1=0∧∃u,(p.1,u)∈EH:=fun p hp=>⟨(SD.hi p hp).1.grown gT (Or.inl (by have:=SD.z1;omega)),(SD.hi p hp).2⟩
   have belV:Below w.heap.size w V:=SD.bel.trans (kp.below (B:=w.heap.size) (by simp) SD.bel.size);have zV:B1≤V.heap.size:=Nat.le_trans SD.z kp.size;have H3:=hY6 AV rrV rlV hiV belV zV;have H2:=hY6 SD.ok SD.ord SD.refs (SD.rb gr rfl:gr<B1) SD.z1 ((SD.rr.lt gr rfl).1:w.heap.size+4≤gr);have HC:Hid (∀{W:World},RowPr 45 (w.heap.size+4) (.slice (some ⟨gr,0,none⟩) rest.length rc) rest W→W.cell? ⟨gr,i*2,none⟩=some (.int .i64 r.1)∧W.cell? ⟨gr,i*2+1,none⟩=some (.int .i64 r.2)):=hcell;clear SD S2 hM hM2 ht kp nc nq hmb bkV AV gT rrV rlV hiV belV zV hrD hcell;go_wp2;go_region;all_goals
    clear c0 z0 x0 x1 zr hput;obtain⟨p,hp,hpr,hpv,_⟩:=ent_of hrk;have AV:=H3.out.1;have hchg:=(AV.bk.chgs p (List.mem_append_left _ hp)).1;obtain⟨ca,cs,ct,da,dn,dc,oa,on,oc,hpe⟩:=hchg.cv;have few:=chk_few (AV.bk.chgs p (List.mem_append_left _ hp)).2;have EC:=copyOf_hi _ p.1 V.drew (hchg.below (drew_of (Below.refl V.heap.size V))) (by omega) (by omega) (fun o ho=>by have:=few.2.2.1 o ho;omega);rw[hpe] at EC;have hent:(lk (ents EH) r).getD zC=.agg #[.int .i64 ca,.int .i64 cs,.int .i64 ct,.slice da dn dc,.slice oa on oc]:=by
     have:entV (ents EH) r=p.2:=hpv;unfold entV at this;rw[this,hpe]
    have h64:=hr64;have k0:V.cell? ⟨w.heap.size,0,none⟩=some (.pointer (some ⟨g,0,none⟩)):=cLo AV.bx 0;have k1:V.cell? ⟨g,0,none⟩=some (.map (some h)):=cLo AV.bk.book.box 0;have k2:=(HC.out H3.out.2.1).1;have k3:=(HC.out H3.out.2.1).2;have mh:=AV.bk.book.has;have HP:=hY3 hp hpr ((AV.bk.chgs p (List.mem_append_left _ hp)).2:chk p.1=0);clear AV hchg few hp hpr hpv hpe;go_wp2;refine rNh (fun W=>W.cell? ⟨w.heap.size,0,none⟩=some (.pointer (some ⟨g,0,none⟩))∧W.cell? ⟨g,0,none⟩=some (.map (some h))∧W.cell? ⟨gr,i*2,none⟩=some (.int .i64 r.1)∧W.cell? ⟨gr,i*2+1,none⟩=some (.int .i64 r.2)∧MapL W h (ents EH)) (⟨k0,k1,k2,k3,⟨mh.own,mh.nd,mh.r64⟩⟩) (fun hHeld=>?_);refine tk 0 rfl ?_;refine tk 1 rfl ?_;refine tk 2 rfl ?_;refine tk 3 rfl ?_;refine tk 4 rfl ?_;refine tk 5 rfl ?_;refine tk 6 rfl ?_;refine tk 7 rfl ?_;refine tk 8 rfl ?_;refine wpAnyH_take (i:=9) (oi:={dst:=some 38,op:=Op.lookup 75 (Operand.tmp 33) (Operand.tmp 37) false,type:=33,pos := "dag.go:60",after:=#[aD 4,aD 8],guard:=none}) (v:=.agg #[.int .i64 ca,.int .i64 cs,.int .i64 ct,.slice da dn dc,.slice oa on oc]) rfl (by kernel_rfl) (by kernel_rfl) (by kernel_rfl) (fun _ _ _ h=>h) (Or.inl ⟨by rfl,?_⟩) (by assumption) ?_
    ·intro wz hSw;have hl:=hSw.2.2.2.2.look1 Tryz.underlying75 (zeroC _) h64;rw[hent] at hl;simp[Act.eval,hl,go_sem]
    try simp only[Act.put,nm]
    refine wpAnyH_ready (rs:=[10]) (by kernel_rfl) (by simp) (AllReadyH.cons (o:={dst:=some 39,op:=Op.call {callee:=Callee.value (Operand.func 34),args:=#[Operand.tmp 38],argTypes:=#[33]},type:=33,pos := "dag.go:60",after:=#[aD 9],guard:=none}) rfl (fun K hK=>?_) AllReadyH.nil);go_simp;go_at_call 34;refine Calls.mono EC ?_;rintro e w10 ⟨u,rfl,hu,hb10⟩;go_wp2_with fail;refine hK.out _ _ (keepL (by assumption) hb10) (fun hHeld10=>?_);clear hK K;try simp only[Act.put,nm]
    obtain⟨ua,us,ut,uda,udn,udc,uoa,uon,uoc,huv⟩:=hu.chgW.cv;have hcvu:=hu.chgW.cv;have row10:RowC (w.heap.size+4) lv0 (es.map (·.2)) w10:=own_below (own_below H3.out.2.2.1 (drew_of (Below.refl V.heap.size V)) lRf) hb10 lRf;have rr10:RowPr 45 (w.heap.size+4) (.slice (some ⟨gr,0,none⟩) rest.length rc) rest w10:=own_below (own_below H3.out.2.1 (drew_of (Below.refl V.heap.size V)) lRf) hb10 lRf;have z10:V.heap.size≤w10.heap.size:=hb10.size;have b11:=bAl w10 (.cells (vcells u).toArray 33);obtain⟨nv,U,happ,hrowU,hgr⟩:=run_appC 23 (w10.alloc (.cells (vcells u).toArray 33)) (w.heap.size+4) (Nat.le_trans (Nat.le_trans H2.out.2.2.2.2.1 H3.out.2.2.2.2.2) (Nat.le_trans z10 b11.size)) lv0 u (es.map (·.2)) hcvu (own_below row10 b11 lRf) (by rw[List.length_map];have h1:=congrArg List.length H2.out.2.2.1;rw[List.length_map] at h1;have h2:=HT.out.2.2;have h3:=H2.out.1.perm.length_eq;have h4:=HB.out.many;rw[List.length_append,List.length_map] at h3;omega) w10.heap.size (heap_alloc_new w10 _);obtain⟨grcur,hgrc⟩:∃cur,w10.heap[gr]?=some (.cells cur 45):=by
     rcases rr10.2 with⟨e,_⟩ | ⟨g',c',cur,e,_,hh,_⟩
     ·cases e
     ·have e1:=(Value.slice.inj e).1;have:gr=g':=by have:=Option.some.inj e1;simpa using this
      subst this;exact⟨cur,hh⟩
    have low:∀b,b<w.heap.size+4→some b≠lv0.ownBlock:=fun b hb e=>by
     have:=(row10.lt b e.symm).1;omega
    have n0:=low w.heap.size (by omega);have n1:=low g (by have:=lt_of_heap HB.out.book.box;omega);have n2:some gr≠lv0.ownBlock:=by
     rcases ownsRow_ne_a row10 hgrc (fun cur e=>by cases e) with e | e
     ·rw[e];simp
     ·exact fun e'=>e e'.symm
    have n3:=low h (by have:=HB.out.book.has.lt;omega);have rrU:=(own_below rr10 b11 lRf).kept hgr (Or.inr (fun e=>n2 e.symm.symm));have HU:=hY7 hu hb10 b11 hrowU hgr rrU row10;obtain⟨na,nn,nc,rfl⟩:∃a n c,nv=.slice a n c:=by
     rcases hrowU.2 with⟨e,_⟩ | ⟨_,_,_,e,_⟩
     ·exact⟨_,_,_,e⟩
     ·exact⟨_,_,_,e⟩
    have HLo:Hid (∀b,b<w.heap.size+4→some b≠lv0.ownBlock):=low;subst huv;simp only[vcells] at happ hgr b11;clear hu hcvu row10 rr10 z10 hrowU hgrc rrU low hb10;refine wpAnyH_ready (rs:=[11]) (by kernel_rfl) (by simp) (AllReadyH.cons (o:={dst:=some 40,op:=Op.buildSlice 23 1 #[(0,Operand.tmp 39)],type:=23,pos := "dag.go:60",after:=#[aD 10],guard:=none}) rfl (fun K hK=>?_) AllReadyH.nil);go_simp;refine hK.out _ _ (keepL (by assumption) b11) (fun hHeld11=>?_);clear hK K;try simp only[Act.put,nm]
    refine wpAnyH_ready (rs:=[12]) (by kernel_rfl) (by simp) (AllReadyH.cons (o:={dst:=some 41,op:=Op.call {callee:=Callee.builtin Builtin.append,args:=#[Operand.tmp 29,Operand.tmp 40],argTypes:=#[23,23]},type:=23,pos := "dag.go:60",after:=#[aD 0,aD 11,aC 10],guard:=none}) rfl (fun K hK=>?_) AllReadyH.nil);refine step_append_known rfl (.tmp 29) (.tmp 40) 23 rfl lv0 (.slice (some ⟨w10.heap.size,0,none⟩) 1 1) (.slice na nn nc) U (by simp[Act.eval]) (by simp[Act.eval]) happ ?_;refine hK.out _ _ (keepG (by assumption) hgr n0 n1 n2 n3) (fun hHeld12=>?_);clear hK K;try simp only[Act.put,nm]
    refine tk 13 rfl ?_;refine wDn ?_;clear hHeld hHeld10 hHeld11 hHeld12 EC k0 k1 k2 k3 mh hent h64 happ n0 n1 n2 n3;have hG:=HU.out.2.2.2.2.2.1;have ED:=delete_any (w.heap.size+4) gr rc rest i U hG HK.out.2.2 (by have h2:=HT.out.2.2;have h3:=H2.out.1.perm.length_eq;have h4:=HB.out.many;rw[List.length_append,List.length_map] at h3;omega);have HGR:Hid _:=hgr;have HB11:Hid _:=b11;clear hG hgr b11;go_wp2_with fail;go_fit ED;rintro e w5 ⟨rfl,d1,d2⟩;have HN:Hid (AllSt w B1 g h q EH EW ts (k+1) (D++[r]) (rest.eraseIdx i) (es++[(p.1,.agg #[.int .i64 ua,.int .i64 us,.int .i64 ut,.slice uda udn udc,.slice uoa uon uoc])]) (.slice na nn nc) (.slice (some ⟨gr,0,none⟩) (rest.length - 1) rc) w5):=by
     obtain⟨hu,hb10,b11,hrowU,hgr,rrU,row10⟩:=HU.out;obtain⟨AV,rrV,rlV,hiV,belV,zV⟩:=H3.out;obtain⟨ok,ord,refs,hgB,hzB,hzg⟩:=H2.out;have bD:=drew_of (Below.refl V.heap.size V);have bA:=(bD.trans hb10)
     have A10:=AV.below bA;have z10:V.heap.size≤w10.heap.size:=bA.size;have A11:=A10.below b11;have low4:w.heap.size+4≤w10.heap.size:=Nat.le_trans hzB (Nat.le_trans zV z10);have b1U:Below (w.heap.size+4) (w10.alloc _) U:=(Below.refl (w.heap.size+4) (w10.alloc _)).grown hgr (Nat.le_trans low4 b11.size) (fun b e=>(row10.lt b e).1);have bU5:Below (w.heap.size+4) U w5:=(Below.refl (w.heap.size+4) U).grown d2 (Nat.le_trans (Nat.le_trans low4 b11.size) b1U.size) (fun b e=>by cases e;exact hzg);have bb:=b1U.trans bU5;have bel10:Below w.heap.size w w10:=belV.trans (bA.mono belV.size);have bel11:=bel10.trans (b11.mono bel10.size);have bel5:Below w.heap.size w w5:=bel11.trans (bb.mono (by omega));have hb:∀{b:Nat} {o:Obj},(w10.alloc _).heap[b]?=some o→b<w.heap.size+4→w5.heap[b]?=some o:=fun {b o} h1 h2=>(bb.block b h2).trans h1;have M5:MapL w5 (w.heap.size+1) ((D++[r]).map fun r=>(r,(.int .i64 1:Value))):=by
      have h1:=A11.mp;obtain⟨D',⟨es',clock,h0,h2⟩,h3⟩:=h1.own;exact⟨⟨D',⟨es',clock,hb h0 (by omega),h2⟩,h3⟩,h1.nd,h1.r64⟩
     have hlvt:∀b,lv0.ownBlock=some b→∃o,(w10.alloc _).heap[b]?=some o∧∀cur T,(T=45∨T=62∨T=49)→o≠.cells cur T (0,0):=fun b hbb=>by
      rcases(own_below row10 b11 lRf).2 with⟨e,_⟩ | ⟨g',c',cur,e,_,hh,_⟩
      ·rw[e] at hbb;cases hbb
      ·have:g'=b:=by rw[e] at hbb;simpa [Value.ownBlock] using hbb
       subst this;refine⟨_,hh,fun cur' T hT e'=>?_⟩;have:=(Obj.cells.inj e').2.1;rcases hT with rfl | rfl | rfl <;> revert this <;> decide
     have keepH:∀{v:Value} {c:Chg},IsChgH B1 w10 v c→IsChgH B1 w5 v c:=fun {v c} h1=>by
      have h2:=h1.below b11;have h3:IsChgH B1 U v c:=by
       cases hob:lv0.ownBlock with
       | none=>
        rw[hob] at hgr;exact h2.rows fun _ _ _ _ _ _ rr=>rr.kept hgr (by cases hv:Value.ownBlock _ with | none=>exact Or.inl rfl | some y=>exact Or.inr (by simp))
       | some y=>
        rw[hob] at hgr;exact h2.grown hgr (Or.inr (hlvt y hob))
      exact h3.grown d2 (Or.inl hgB)
     have hstep:ordN EH ts (k+1)=(D++[r],rest.eraseIdx i):=by
      show ordStep EH (ordN EH ts k)=_;rw[ord];unfold ordStep;dsimp only;rw[HX.out];have h1:=HK.out.2.2;have h2:=HR.out h1;simp[List.getD,h1,h2]
     refine⟨⟨HB.out.below bel5,hb A11.bx (by omega),hb A11.tb (by omega),M5,hb A11.fb (by omega)⟩,?_,hstep,d1,?_,fun p' hp'=>?_,?_,fun b e=>?_,bel5,?_,hzB⟩
     ·obtain⟨hi,hib⟩:=HI.out;have:=ok.step i hi hib;rw[HR.out hi] at this;exact this
     ·rw[List.map_append];exact hrowU.kept d2 (by
       rcases hrowU.2 with⟨e,_⟩ | ⟨g',c',cur,e,_,hh,_⟩
       ·left;rw[e];rfl
       ·right;intro e';have:g'=gr:=by rw[e] at e';simpa [Value.ownBlock] using e'
        subst this;rcases rrU.2 with⟨e2,_⟩ | ⟨g2,c2,cur2,e2,_,hh2,_⟩
        ·cases e2
        ·have e3:=(Value.slice.inj e2).1;have:g'=g2:=by have:=Option.some.inj e3;simpa using this
         subst this;rw[hh] at hh2;have:=(Obj.cells.inj (Option.some.inj hh2)).2.1;revert this;decide)
     ·rcases List.mem_append.1 hp' with e | e
      ·exact⟨keepH (((hiV p' e).1.below bD).below hb10),(hiV p' e).2⟩
      ·rw[List.mem_singleton.1 e];exact⟨keepH (hu.mono zV),HP.out.2.2,p.2,HP.out.1⟩
     ·rw[List.map_append,refs];simp[HP.out.2.1]
     ·have:gr=b:=by simpa [Value.ownBlock] using e
      omega
     ·exact Nat.le_trans (Nat.le_trans zV z10) (Nat.le_trans b11.size bb.size)
    clear ED d1 d2;go_wp2;go_roundg (gk - 1)
    case measure=>have:=HK.out;omega
    case rel=>exact⟨k+1,_,_,_,by have:=HK.out;omega,by first | rfl | go_num | (congr 1;unfold wrap64;have:=HK.out;omega),HN.out⟩
  ·have hke:k=ts.length:=by omega
   have hr0:rest=[]:=List.length_eq_zero_iff.1 (by omega);have HP:Hid (AllP w EH lv0 wr):=by
    subst hr0 hke;exact⟨ts,D,es,HT.out.1,HT.out.2.1,hS.out.ord,hS.out.ok,hS.out.refs,own_mono hS.out.rl (by omega),fun p hp=>⟨(hS.out.hi p hp).1.chgW,(hS.out.hi p hp).2⟩,hS.out.bel⟩
   have g1:¬(k:Int)<ts.length:=by omega
   clear hDl hrl hlt hk hke hr0 hS;go_wp2;go_ret;exact⟨_,rfl,HP.out⟩
def Ones (L:List (Pr×Value)):Prop:=∀x∈L,x.2=.int .i64 1
end Go.Proofs.YtamhlgflbacjgaaGreat
namespace Go.Proofs.YtamhlgflbacjgaaGreat
open Go.RowKit Go.Maps Go.Sort Go.Shelf Go.Lib
theorem idxP_before {p:Pr→Bool} {l:List Pr} {k:Nat} (h:idxP p l=k):∀j (hj:j<l.length),j<k→p l[j]=false:=by
 induction l generalizing k with
 | nil=>intro j hj;simp at hj
 | cons x l ih=>
  simp only[idxP] at h;intro j hj hjk;split at h
  ·omega
  ·rename_i hx;split at h
   ·omega
   ·cases k with
    | zero=>omega
    | succ k=>
     cases j with
     | zero=>simpa using hx
     | succ j=>
      have:=ih (k:=k) (by omega) j (by simpa using hj) (by omega);simpa using this
end Go.Proofs.YtamhlgflbacjgaaGreat
namespace Go.Proofs.YtamhlgflbacjgaaGreat
open Go.RowKit Go.Maps
def Hung (EH:List CE) (L:List (Pr×Value)):Prop:=Ones L∧∀d∈L.map (·.1),∃p∈EH,d∈p.1.deps
theorem Hung.put {EH:List CE} {L:List (Pr×Value)} (h:Hung EH L) {p:CE} (hp:p∈EH) {d:Pr} (hd:d∈p.1.deps):Hung EH (putL L d (.int .i64 1)):=by
 unfold putL;refine⟨fun x hx=>?_,fun r hr=>?_⟩
 ·rcases List.mem_append.1 hx with e | e
  ·exact h.1 x (List.mem_filter.1 e).1
  ·rw[List.mem_singleton.1 e]
 ·rw[List.map_append] at hr;rcases List.mem_append.1 hr with e | e
  ·obtain⟨x,hx,rfl⟩:=List.mem_map.1 e;exact h.2 _ (List.mem_map.2 ⟨x,(List.mem_filter.1 hx).1,rfl⟩)
  ·simp at e;subst e;exact⟨p,hp,hd⟩
def HeadIn (w:World) (EH:List CE) (LM:List (Pr×Value)) (wr:World):Prop:=
 MapL wr w.heap.size LM∧Hung EH LM∧wr.heap[w.heap.size+1]?=some (.cells #[.map (some w.heap.size)] 86)∧Below w.heap.size w wr∧w.heap.size+3≤wr.heap.size
theorem HeadIn.below {w:World} {EH:List CE} {LM:List (Pr×Value)} {wr V:World} (h:HeadIn w EH LM wr) (b:Below wr.heap.size wr V):HeadIn w EH LM V:=
 ⟨h.1.below b,h.2.1,heap_below h.2.2.1 b lRf,h.2.2.2.1.trans (b.mono h.2.2.2.1.size),Nat.le_trans h.2.2.2.2 b.size⟩
theorem keepX {W W':World} {b off b2 off2 k pn pc pm pe qn qc qm qe:Nat} {p1 p2 p3 q1 q2 q3:Int} {pd po qd qo:Option Addr} (hh:W.cell? ⟨b,off+k*5,none⟩=some (.int .i64 p1)∧W.cell? ⟨b,off+k*5+1,none⟩=some (.int .i64 p2)∧W.cell? ⟨b,off+k*5+2,none⟩=some (.int .i64 p3)∧W.cell? ⟨b,off+k*5+3,none⟩=some (.slice pd pn pc)∧W.cell? ⟨b,off+k*5+4,none⟩=some (.slice po pm pe)∧W.cell? ⟨b2,off2+k*5,none⟩=some (.int .i64 q1)∧W.cell? ⟨b2,off2+k*5+1,none⟩=some (.int .i64 q2)∧W.cell? ⟨b2,off2+k*5+2,none⟩=some (.int .i64 q3)∧W.cell? ⟨b2,off2+k*5+3,none⟩=some (.slice qd qn qc)∧W.cell? ⟨b2,off2+k*5+4,none⟩=some (.slice qo qm qe)) (hb:Below W.heap.size W W'):W'.cell? ⟨b,off+k*5,none⟩=some (.int .i64 p1)∧W'.cell? ⟨b,off+k*5+1,none⟩=some (.int .i64 p2)∧W'.cell? ⟨b,off+k*5+2,none⟩=some (.int .i64 p3)∧W'.cell? ⟨b,off+k*5+3,none⟩=some (.slice pd pn pc)∧W'.cell? ⟨b,off+k*5+4,none⟩=some (.slice po pm pe)∧W'.cell? ⟨b2,off2+k*5,none⟩=some (.int .i64 q1)∧W'.cell? ⟨b2,off2+k*5+1,none⟩=some (.int .i64 q2)∧W'.cell? ⟨b2,off2+k*5+2,none⟩=some (.int .i64 q3)∧W'.cell? ⟨b2,off2+k*5+3,none⟩=some (.slice qd qn qc)∧W'.cell? ⟨b2,off2+k*5+4,none⟩=some (.slice qo qm qe):=by
 obtain⟨h0,h1,h2,h3,h4,h5,h6,h7,h8,h9⟩:=hh;exact⟨(hb.cell (cell_in h0)).trans h0,(hb.cell (cell_in h1)).trans h1,(hb.cell (cell_in h2)).trans h2,(hb.cell (cell_in h3)).trans h3,(hb.cell (cell_in h4)).trans h4,(hb.cell (cell_in h5)).trans h5,(hb.cell (cell_in h6)).trans h6,(hb.cell (cell_in h7)).trans h7,(hb.cell (cell_in h8)).trans h8,(hb.cell (cell_in h9)).trans h9⟩
theorem sameC_any (v u:Value) (l m:List CX) (w:World) (hv:IsChgs w v l) (hu:IsChgs w u m) (hlm:l.map (·.c)=m.map (·.c)) (hc:∀x∈l,chk x.c=0):
 Calls Tryz.prog 10 #[v,u] w fun e w'=>e=.returned (.bool true)∧Below w.heap.size w w':=by
 have hlen:l.length=m.length:=by have:=congrArg List.length hlm;simpa using this
 obtain⟨a,cap,rfl,h1,h2,hr,h3⟩:=hv;obtain⟨a2,cap2,rfl,h12,h22,hr2,h32⟩:=hu;have H3:=hY2 hr h3;have H4:=hY2 hr2 h32;have HZ:=hY4 h2 hlen hlm hc;rw[←hlen];clear h3 hr h1 h2 h12 h22 hr2 h32 hlen hlm hc;go_enter Tryz.func10,Tryz.ntmps10
 go_wp2_with fail;go_loopw [5] (fun i wr=>∃k:Nat,k≤l.length∧i=.int .i64 k∧Hid (Below w.heap.size w wr)) (fun i _=>l.length - (RowKit.intOf i).toNat)
 case atStart=>exact⟨0,Nat.zero_le _,rfl,Below.refl _ _⟩
 case round=>
  obtain⟨k,hk,rfl,hbel⟩:=hrel;by_cases hlt:k<l.length
  ·have hlt2:k<m.length:=by have:=HZ.out.2.1;omega
   obtain⟨b,off,rfl,h4,h5⟩:=H3.out.2 (fun e=>by rw[e] at hlt;simp at hlt);obtain⟨b2,off2,rfl,h6,h7⟩:=H4.out.2 (fun e=>by rw[e] at hlt2;simp at hlt2);obtain⟨p,hp⟩:=gNz (l[k]:CX);obtain⟨q,hq⟩:=gNz (m[k]:CX);have hpI:=H3.out.1 l[k] (List.getElem_mem hlt);have hqI:=H4.out.1 m[k] (List.getElem_mem hlt2);have hpq:q.c=p.c:=by
    have h8:(l.map (·.c))[k]'(by simpa using hlt)=(m.map (·.c))[k]'(by simpa using hlt2):=by simp only[HZ.out.2.2.1]
    simp only[List.getElem_map,hp,hq] at h8;exact h8.symm
   have hck:chk p.c=0:=by rw[←hp];exact HZ.out.2.2.2 _ (List.getElem_mem hlt)
   rw[hp] at hpI;rw[hq] at hqI;obtain⟨_,pd,pn,pc,po,pm,pe,e1,e2⟩:=CX.form hpI;obtain⟨_,qd,qn,qc,qo,qm,qe,e3,e4⟩:=CX.form hqI;have hc1':∀j,j<5→wr.cell? ⟨b,off+k*5+j,none⟩=p.cells[j]?:=fun j hj=>by rw[hbel.out.cell (p:=⟨b,off+k*5+j,none⟩) h4,←hp];exact h5 k hlt j hj
   have hc2':∀j,j<5→wr.cell? ⟨b2,off2+k*5+j,none⟩=q.cells[j]?:=fun j hj=>by rw[hbel.out.cell (p:=⟨b2,off2+k*5+j,none⟩) h6,←hq];exact h7 k hlt2 j hj
   have hpv:p.val=.agg #[.int .i64 p.c.actor,.int .i64 p.c.seq,.int .i64 p.c.start,.slice pd pn pc,.slice po pm pe]:=by unfold CX.val;rw[e1,e2]
   have hqv:q.val=.agg #[.int .i64 q.c.actor,.int .i64 q.c.seq,.int .i64 q.c.start,.slice qd qn qc,.slice qo qm qe]:=by unfold CX.val;rw[e3,e4]
   have EC:=same_any _ _ p.c wr.drew (IsChg.below hpI (drew_of hbel.out)) (by have:=IsChg.below hqI (drew_of hbel.out);rw[hpq] at this;exact this) hck;rw[hpv,hqv] at EC;unfold CX.cells at hc1' hc2';rw[e1,e2] at hc1';rw[e3,e4] at hc2';obtain⟨p1,hp1⟩:=gNz (p.c.actor);obtain⟨p2,hp2⟩:=gNz (p.c.seq);obtain⟨p3,hp3⟩:=gNz (p.c.start);obtain⟨q1,hq1⟩:=gNz (q.c.actor);obtain⟨q2,hq2⟩:=gNz (q.c.seq);obtain⟨q3,hq3⟩:=gNz (q.c.start);rw[hp1,hp2,hp3] at hc1' EC;rw[hq1,hq2,hq3] at hc2' EC;have hc1:=hc1';have hc2:=hc2';have k0:wr.cell? ⟨b,off+k*5,none⟩=some (.int .i64 p1):=hc1 0 (by omega);have k1:wr.cell? ⟨b,off+k*5+1,none⟩=some (.int .i64 p2):=hc1 1 (by omega);have k2:wr.cell? ⟨b,off+k*5+2,none⟩=some (.int .i64 p3):=hc1 2 (by omega);have k3:wr.cell? ⟨b,off+k*5+3,none⟩=some (.slice pd pn pc):=hc1 3 (by omega);have k4:wr.cell? ⟨b,off+k*5+4,none⟩=some (.slice po pm pe):=hc1 4 (by omega);have k5:wr.cell? ⟨b2,off2+k*5,none⟩=some (.int .i64 q1):=hc2 0 (by omega);have k6:wr.cell? ⟨b2,off2+k*5+1,none⟩=some (.int .i64 q2):=hc2 1 (by omega);have k7:wr.cell? ⟨b2,off2+k*5+2,none⟩=some (.int .i64 q3):=hc2 2 (by omega);have k8:wr.cell? ⟨b2,off2+k*5+3,none⟩=some (.slice qd qn qc):=hc2 3 (by omega);have k9:wr.cell? ⟨b2,off2+k*5+4,none⟩=some (.slice qo qm qe):=hc2 4 (by omega);have g1:(k:Int)<l.length:=by omega
   have g2:(k:Int)<1000000:=by have:=HZ.out.1;omega
   have g3:(0:Int)≤k:=by omega
   have HK:Hid (k<l.length):=hlt;clear h5 h7 hk hlt hlt2 hpI hqI hpq hck e1 e2 e3 e4 hc1' hc2' hc1 hc2 hpv hqv hp hq hp1 hp2 hp3 hq1 hq2 hq3;go_upto_region 6 with fail
   refine rNh (fun W=>W.cell? ⟨b,off+k*5,none⟩=some (.int .i64 p1)∧W.cell? ⟨b,off+k*5+1,none⟩=some (.int .i64 p2)∧W.cell? ⟨b,off+k*5+2,none⟩=some (.int .i64 p3)∧W.cell? ⟨b,off+k*5+3,none⟩=some (.slice pd pn pc)∧W.cell? ⟨b,off+k*5+4,none⟩=some (.slice po pm pe)∧W.cell? ⟨b2,off2+k*5,none⟩=some (.int .i64 q1)∧W.cell? ⟨b2,off2+k*5+1,none⟩=some (.int .i64 q2)∧W.cell? ⟨b2,off2+k*5+2,none⟩=some (.int .i64 q3)∧W.cell? ⟨b2,off2+k*5+3,none⟩=some (.slice qd qn qc)∧W.cell? ⟨b2,off2+k*5+4,none⟩=some (.slice qo qm qe)) (⟨k0,k1,k2,k3,k4,k5,k6,k7,k8,k9⟩) (fun hHeld=>?_);refine tk 0 rfl ?_;refine tk 1 rfl ?_;refine tk 2 rfl ?_;refine tk 3 rfl ?_;refine tk 4 rfl ?_;refine tk 5 rfl ?_;refine tk 6 rfl ?_;refine tk 7 rfl ?_;refine wpAnyH_ready (rs:=[8]) (by kernel_rfl) (by simp) (AllReadyH.cons (o:=_) rfl (fun K hK=>?_) AllReadyH.nil);go_simp;go_at_call 43;refine Calls.mono EC ?_;rintro e w8 ⟨rfl,hb8⟩;go_wp2_with fail;refine hK.out _ _ (keepX (by assumption) hb8) (fun hHeld8=>?_);clear hK K;try simp only[Act.put,nm]
   refine tk 9 rfl ?_;refine wDn ?_;have HB8:Hid (Below w.heap.size w w8):=(drew_of hbel.out).trans (hb8.mono hbel.out.size);clear hHeld hHeld8 hb8 EC k0 k1 k2 k3 k4 k5 k6 k7 k8 k9;go_wp2;go_roundw
   case rel=>exact⟨k+1,HK.out,by go_num,HB8.out⟩
   case measure=>simp[RowKit.intOf];have:=HK.out;omega
  ·have hke:k=l.length:=by omega
   clear hlt hk;subst hke;go_wp2;go_ret;exact⟨rfl,hbel.out⟩
end Go.Proofs.YtamhlgflbacjgaaGreat
