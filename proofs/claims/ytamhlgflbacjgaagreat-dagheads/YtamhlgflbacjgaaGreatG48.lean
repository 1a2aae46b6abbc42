/-
  What is proved: as each theorem says.
  Conditions: as each theorem says.
-/
import Derived.Test.YtamhlgflbacjgaaGreatG00
import Derived.Test.YtamhlgflbacjgaaGreatG47
set_option maxRecDepth 100000
set_option maxHeartbeats 16000000
namespace Go.Proofs.YtamhlgflbacjgaaGreat
open Go.RowKit Go.Maps Go.Sort
theorem fnd_some {w:World} {g h q:Nat} {EH EW:List CE} (_B:Bk w g h q EH EW) (r:Pr):(fnd (ents EH) (ents EW) r).isSome=true↔(r∈refsOf (chgsOf EH)∨r∈refsOf (chgsOf EW)):=by
 unfold fnd;rw[refs_chgs,refs_chgs,mem_keys,mem_keys];cases lk (ents EH) r <;> cases lk (ents EW) r <;> simp
theorem miss1_any (g h q x:Nat) (EH EW:List CE) (r:Pr) (w:World) (B:Bk w g h q EH EW) (hx:w.heap[x]?=some (.cells #[.pointer (some ⟨g,0,none⟩)] 25)) (hr:R64 r):
 Calls Tryz.prog 52 #[refV r,.pointer (some ⟨x,0,none⟩)] w fun e w'=>e=.returned (.bool (fnd (ents EH) (ents EW) r).isSome)∧Below w.heap.size w w':=by
 have b0:=bAl w (.cells #[.int .i64 r.1,.int .i64 r.2] 45);have n0:=heap_alloc_new w (.cells #[.int .i64 r.1,.int .i64 r.2] 45);have B1:=B.below b0;have hx1:=heap_below hx b0 lRf;have HA:=hY4 b0 n0 B1 hx1;obtain⟨sb,hsb⟩:=gNz ((fnd (ents EH) (ents EW) r).isSome:Bool);rw[hsb];have HSB:Hid ((fnd (ents EH) (ents EW) r).isSome=sb):=hsb;clear b0 n0 B1 hx1 B hx hsb;go_enter Tryz.func52,Tryz.ntmps52
 unfold refV;go_upto_region 1 with fail
 generalize w.alloc (.cells #[.int .i64 r.1,.int .i64 r.2] 45)=W at *;have E:=find_any g h q (ents EH) (ents EW) r W HA.out.2.2.1.book hr HA.out.2.2.1.cvH HA.out.2.2.1.cvW;obtain⟨va,vs,vt,vd,vn,vc,vo,vm,ve,hv⟩:CV ((fnd (ents EH) (ents EW) r).getD zC):=by
  unfold fnd;cases h1:lk (ents EH) r with
  | some u=>exact HA.out.2.2.1.cvH _ (lk_mem h1)
  | none=>
   simp only[Option.none_or];exact cv_look HA.out.2.2.1.cvW r
 rw[hv,HSB.out] at E;unfold refV at E;have c0:W.cell? ⟨x,0,none⟩=some (.pointer (some ⟨g,0,none⟩)):=cLo HA.out.2.2.2 0;obtain⟨r0,r1,-⟩:=cLs HA.out.2.1;have HB:Hid (Below w.heap.size w W):=HA.out.1;clear hv HA;go_wp2_with fail;go_fit E;rintro e w2 ⟨rfl,b2⟩;have HB2:Hid (∀o,Below w.heap.size w (w2.alloc o)):=fun o=>(HB.out.trans (b2.mono HB.out.size)).alloc (Nat.le_trans HB.out.size b2.size) _;clear E b2 c0 r0 r1;go_wp2;go_ret;exact⟨rfl,HB2.out _⟩
theorem grown_of_below {w w':World} {row:Option Nat} (h:Below w.heap.size w w'):w.grownBy w' row:=⟨h.os,h.tape,h.output,h.size,fun k hk _=>h.block k hk⟩
theorem delW_any (f:FuncId) (eg:∀args w,(callFunc f args).run Tryz.prog w=.ok (.enter f args) w) (c:Value) (p:Pr→Bool) (base:Nat) (v:Value) (l:List Pr) (w:World) (h:RowPr 45 base v l w) (hl:l.length≤1000000) (h64:∀r∈l,R64 r) (hp:∀g,v.ownBlock=some g→PredK f #[c] p l g w):
 Calls Tryz.prog 44 #[v,.func (Fn.func f) #[] #[c]] w fun e w'=>∃u,e=.returned u∧RowPr 45 base u (l.filter fun r=> !p r) w'∧w.grownBy w' v.ownBlock:=by
 rcases h.2 with⟨rfl,h0⟩ | ⟨g,cap,cur,rfl,_⟩
 ·refine(delF_nil f eg c w).mono ?_;rintro e w' ⟨rfl,b⟩;have:l=[]:=List.length_eq_zero_iff.1 h0;subst this;exact⟨_,rfl,World.ownsRow_nil _ _ _ _,grown_of_below b⟩
 ·refine(delF_any f eg c p base g cap l w h hl h64 (hp g rfl)).mono ?_;rintro e w' ⟨u,rfl,h1,h2,_⟩;have k:=h2 g rfl;exact⟨u,rfl,h1,⟨k.os,k.tape,k.output,k.size,fun b hb hn=>k.block b hb (fun e=>hn (by rw[List.mem_singleton.1 e];rfl))⟩⟩
theorem refsC_one (r:Pr):refsC [r]=if refB r=true then 0 else 1:=by
 unfold refsC;cases h:refB r <;> simp[h,chainB]
def DMissP (L W:List Chg) (hs:List Pr) (e:Ending) (w':World):Prop:=
 (hs.all refB=false∧e=.returned (.tuple #[.slice none 0 0,errV 1]))∨(hs.all refB=true∧∃u O,e=.returned (.tuple #[u,.nilIface])∧IsPairs w' u O∧MissP L W hs O)
structure Gat (EW:List CE) (hs A:List Pr) (left:Lit→Bool):Prop where
 heads:∀x∈hs,x∈A
 seen:∀p∈EW,left (refL p.1.ref)=true∨∀d∈p.1.deps,d∈A
 only:∀x∈A,x∈hs∨∃p∈EW,x∈p.1.deps
theorem Gat.start (EW:List CE) (hs:List Pr) (left:Lit→Bool) (h:∀p∈EW,left (refL p.1.ref)=true):Gat EW hs hs left:=⟨fun _ h=>h,fun p hp=>Or.inl (h p hp),fun _ h=>Or.inl h⟩
theorem Gat.done {EW:List CE} {hs A:List Pr} {left:Lit→Bool} (h:Gat EW hs A left) (hl:∀kl,left kl=false) (x:Pr):x∈A↔(x∈hs∨∃y∈chgsOf EW,x∈y.deps):=by
 constructor
 ·intro hx;rcases h.only x hx with h1 | ⟨p,hp,hd⟩
  ·exact Or.inl h1
  ·exact Or.inr ⟨p.1,mem_chgs.2 ⟨p,hp,rfl⟩,hd⟩
 ·rintro(h1 | ⟨y,hy,hd⟩)
  ·exact h.heads x h1
  ·obtain⟨p,hp,rfl⟩:=mem_chgs.1 hy;rcases h.seen p hp with h2 | h2
   ·rw[hl] at h2;cases h2
   ·exact h2 x hd
structure MisIn (w:World) (g:Nat) (vo:Value) (A:List Pr) (wr:World):Prop where
 row:RowPr 45 (w.heap.size+1) vo A wr
 box:wr.heap[w.heap.size]?=some (.cells #[.pointer (some ⟨g,0,none⟩)] 25)
 bel:Below w.heap.size w wr
theorem MisIn.below {w:World} {g:Nat} {vo:Value} {A:List Pr} {wr V:World} (h:MisIn w g vo A wr) (b:Below wr.heap.size wr V):MisIn w g vo A V:=⟨own_below h.row b lRf,heap_below h.box b lRf,h.bel.trans (b.mono h.bel.size)⟩
theorem dMissing_any (w:World) (g h q:Nat) (EH EW:List CE) (v:Value) (hs:List Pr) (B:Bk w g h q EH EW) (hv:IsPairs w v hs) (hwv:Wh v) (hl:hs.length≤800000):
 Calls Tryz.prog 16 #[.pointer (some ⟨g,0,none⟩),v] w fun e w'=>DMissP (chgsOf EH) (chgsOf EW) hs e w'∧Below w.heap.size w w':=by
 obtain⟨va,vn,vc,rfl⟩:∃a n c,v=.slice a n c:=by obtain⟨a,c,e,_⟩:=hv;exact⟨_,_,_,e⟩
 obtain⟨HN⟩:Nonempty (Hid (vn=hs.length∧hs.length≤800000∧vn≤vc)):=⟨by obtain⟨a,c9,e,h1,_⟩:=hv;have e2:=Value.slice.inj e;exact⟨e2.2.1,hl,by rw[e2.2.1,e2.2.2];exact h1⟩⟩
 have HA:=hY3 B hv hwv;have HB0:=hY2 (bAl _ _:Below w.heap.size w (w.alloc (.cells #[.pointer (some ⟨g,0,none⟩)] 25))) (heap_alloc_new w _:(w.alloc (.cells #[.pointer (some ⟨g,0,none⟩)] 25)).heap[w.heap.size]?=some (.cells #[.pointer (some ⟨g,0,none⟩)] 25));clear B hv hwv hl;go_enter Tryz.func16,Tryz.ntmps16
 go_wp2_with fail;generalize w.alloc (.cells #[.pointer (some ⟨g,0,none⟩)] 25)=W0 at *;go_loopw [13] (fun xi wr=>∃i:Nat,i≤hs.length∧xi=.int .i64 i∧Hid ((∀x∈hs.take i,refB x=true)∧Below W0.heap.size W0 wr)) (fun xi _=>hs.length - (RowKit.intOf xi).toNat)
 case atStart=>exact⟨0,Nat.zero_le _,rfl,(fun _ h=>by simp at h),Below.refl _ _⟩
 case round=>
  obtain⟨i,hi,rfl,hR⟩:=hrel;by_cases hlt:i<hs.length
  ·obtain⟨a',c',e9,_,_,h64,h4⟩:=id HA.out.2.1;obtain⟨pb,po,ha',h5,h6⟩:=h4 (fun e=>by rw[e] at hlt;simp at hlt);have hva:va=some ⟨pb,po,none⟩:=(Value.slice.inj e9).1.trans ha';subst hva;obtain⟨r,hr⟩:=gNz (hs[i]:Pr);obtain⟨j,hj⟩:=gNz (i+1:Nat);obtain⟨cz,hcz⟩:=gNz (vc - i:Nat);have bw:Below w.heap.size w wr:=HB0.out.1.trans (hR.out.2.mono HB0.out.1.size);have hp1:IsPairs wr (.slice (some ⟨pb,po+i*2,none⟩) 1 cz) [r]:=by
    refine⟨_,_,rfl,by have:=HN.out;simp;omega,by simp,fun x hx=>by rw[List.mem_singleton.1 hx,←hr];exact h64 _ (List.getElem_mem hlt),fun _=>⟨pb,_,rfl,Nat.lt_of_lt_of_le h5 bw.size,fun t ht=>?_⟩⟩;have ht0:t=0:=by simp at ht;omega
    subst ht0;have h7:=h6 i hlt;rw[hr] at h7;refine⟨?_,?_⟩
    ·rw[bw.cell (p:=⟨pb,po+i*2+0*2,none⟩) h5,Nat.zero_mul,Nat.add_zero];exact h7.1
    ·rw[bw.cell (p:=⟨pb,po+i*2+0*2+1,none⟩) h5,Nat.zero_mul,Nat.add_zero];exact h7.2
   have E1:=idRefs_any _ [r] wr hp1;rw[refsC_one] at E1;obtain⟨rb,hrb⟩:=gNz (refB r:Bool);rw[hrb] at E1;have HRB:Hid (refB r=rb∧∃h:i<hs.length,hs[i]=r):=⟨hrb,hlt,hr⟩
   have HR:Hid ((∀x∈hs.take i,refB x=true)∧Below W0.heap.size W0 wr):=hR;have HJ:Hid (i+1=j):=hj;have g1:(i:Int)<vn:=by have:=HN.out.1;omega
   have g2:(0:Int)≤i:=by omega
   have g5:(j:Int)≤vc:=by have:=HN.out;omega
   have g6:(i:Int)≤j:=by omega
   have g7:j - i=1:=by omega
   have g8:¬vc=i:=by have:=HN.out;omega
   have hw1:wrap64 ((i:Int)+1)=(j:Int):=by unfold wrap64;have:=HN.out;omega
   clear e9 h64 h4 ha' h5 h6 hr hj hi hlt hR hrb bw hp1;go_wp2_with fail;go_fit E1;rintro e w1 ⟨rfl,b1⟩;have HR1:Hid (Below W0.heap.size W0 w1):=HR.out.2.trans (b1.mono HR.out.2.size);clear E1 b1 hw1 g5 g6 g7 g8 hcz;cases rb with
   | false=>
    have HE:Hid (hs.all refB=false∧Below w.heap.size w w1):=by
     obtain⟨e,h,e2⟩:=HRB.out;exact⟨all_no i h (by rw[e2];exact e),HB0.out.1.trans (HR1.out.mono HB0.out.1.size)⟩
    have e1:errV (if false=true then 0 else 1)=.iface 82 (.int .i64 1):=rfl;rw[e1];clear HRB HR e1;go_wp2;go_returns;exact⟨Or.inl ⟨HE.out.1,rfl⟩,HE.out.2⟩
   | true=>
    have HNX:Hid ((∀x∈hs.take (i+1),refB x=true)∧Below W0.heap.size W0 w1):=by
     obtain⟨e,h,e2⟩:=HRB.out;refine⟨fun x hx=>?_,HR1.out⟩;rw[take_snocE hs i h,e2] at hx;rcases List.mem_append.1 hx with hx | hx
     ·exact HR.out.1 x hx
     ·rw[List.mem_singleton.1 hx];exact e
    have e1:errV (if true=true then 0 else 1)=.nilIface:=rfl;rw[e1];clear e1 HR;go_upto_region 7 with fail
    have gm:(i:Int)<800000:=by obtain⟨_,h,_⟩:=HRB.out;have:=HN.out;omega
    go_wp2;go_roundw
    case rel=>obtain⟨_,h,_⟩:=HRB.out;exact⟨i+1,h,by go_num,HNX.out⟩
    case measure=>obtain⟨_,h,_⟩:=HRB.out;simp[RowKit.intOf];omega
  ·have hme:¬(i:Int)<vn:=by have:=HN.out.1;omega
   have HALL:Hid (hs.all refB=true):=by
    have h1:=hR.out.1;rw[List.take_of_length_le (by omega)] at h1;exact List.all_eq_true.2 h1
   have HW1:=hY3 (HB0.out.1.trans (hR.out.2.mono HB0.out.1.size)) (heap_below HB0.out.2 hR.out.2 lRf) ((by have:=lt_of_heap HB0.out.2;have:=hR.out.2.size;omega):w.heap.size+1≤wr.heap.size);clear hlt hi hR HB0;generalize wr=w1 at *;clear wr;obtain⟨v1,U1,happ,row1,gr1,_⟩:=run_appP 30 w1 (w.heap.size+1) HW1.out.2.2 (.slice none 0 0) (.slice va vn vc) [] hs (World.ownsRow_nil _ _ _ _) (HA.out.2.1.below HW1.out.1) HA.out.2.2 (by have:=HN.out;simp;omega);have bU:Below w1.heap.size w1 U1:=(Below.refl _ _).grown gr1 lRf (fun k e=>by simp[Value.ownBlock] at e);rw[List.nil_append] at row1;have HU:Hid (MisIn w g v1 hs U1):=⟨row1,heap_below HW1.out.2.1 bU lRf,HW1.out.1.trans (bU.mono HW1.out.1.size)⟩
   clear row1 gr1 bU;go_upto_region 9 with(first | (at_builtin;refine wp_append rfl _ _ 30 rfl _ _ _ _ rfl rfl happ ?_))
   clear happ hme HW1;have BU:=HA.out.1.below HU.out.bel;obtain⟨-,c1,-⟩:=cLs BU.book.box;have c2:U1.cell? ⟨w.heap.size,0,none⟩=some (.pointer (some ⟨g,0,none⟩)):=cLo HU.out.box 0;have zg:=lt_of_heap BU.book.box;obtain⟨D0,hown,hh,hat0,hsz⟩:=BU.book.wait.own;have HD:Hid (∀r v,R64 r→lk (ents EW) r=some v→∀z,D0.atKey (refL r) z=.held v):=hat0;have HH:Hid (∀r,R64 r→Maps.has D0 (refL r)=(lk (ents EW) r).isSome):=hh;have HSZ:Hid (Maps.size D0=(ents EW).length):=hsz;clear hat0 hh hsz BU;go_wp2_with (first | (at_range;refine wpList_range_own _ rfl _ 75 rfl 45 33 refLaw Tryz.underlying75 _ q (ents EW).length D0 rfl hown ?_;intro w2 hrg0 hg0 hs1) | go_in);go_frame;obtain⟨it,hIt9⟩:=gNz (U1.heap.size);rw[hIt9] at hrg0 hs1 ⊢;have HIT:=hY2 hIt9 ((by rw[←hIt9];exact lt_of_heap HU.out.box):w.heap.size<it);have HI0:=hY2 (HU.out.below ⟨hg0.os,hg0.tape,hg0.output,hg0.size,fun k hk=>hg0.block k hk (by simp)⟩:MisIn w g v1 hs w2) hs1;have HG0:Hid (Gat EW hs hs (Maps.has D0)):=Gat.start EW hs _ (fun p hp=>by
    have h64:=HA.out.1.book.wait.r64 (p.1.ref,p.2) (List.mem_map.2 ⟨p,hp,rfl⟩);rw[HH.out _ h64];exact mem_keys.1 (List.mem_map.2 ⟨p,hp,rfl⟩))
   have HITN:Hid (∀k,v1.ownBlock=some k→k<it):=fun k e=>by rw[←HIT.out.1];exact(HU.out.row.lt k e).2
   clear c1 c2 zg hown hg0 hs1 hIt9 HU;go_loopw [8] (fun xo wr=>∃(left:Lit→Bool) (cnt:Nat) (vo:Value) (A:List Pr),vo=xo∧wr.ranges Tryz.prog 45 rawElem q it (ents EW).length D0 left cnt∧Hid ((∀r,R64 r→left (refL r)=true→(lk (ents EW) r).isSome=true)∧Gat EW hs A left∧A.length+12*cnt≤hs.length+12*(ents EW).length∧MisIn w g vo A wr∧it<wr.heap.size∧vo.ownBlock≠some it)) (fun _ wr=>wr.rangeLeft q it)
   case atStart=>exact⟨_,_,v1,hs,rfl,hrg0,fun r hr hl=>by rw[←HH.out r hr];exact hl,HG0.out,by rw[HSZ.out];exact lRf,HI0.out.1,by have:=HI0.out.2;omega,fun e=>by have:=(HI0.out.1.row.lt it e).2;have h9:=HITN.out it e;omega⟩
   case round=>
    clear hrg0 HI0 HG0;obtain⟨left,cnt,vo,A,rfl,hrg,hI⟩:=hrel;go_wp2_with (first | (at_next;refine wpList_next_ranges _ rfl _ rfl 45 refLaw rawElem refV id (fun key kl hk=>by obtain⟨x,hx,_⟩:=keyOf_inv hk;exact⟨x,hx⟩) (fun v _ _=>⟨v,rfl⟩) q it (ents EW).length _ _ _ rfl hrg ?_ ?_) | go_in)
    ·intro hc0 hl0;have HG:Hid (∀x,x∈A↔(x∈hs∨∃y∈chgsOf EW,x∈y.deps)):=hI.out.2.1.done hl0;have HM:Hid (MisIn w g vo A wr):=hI.out.2.2.2.1;have HAL:Hid (A.length≤900000):=by
      have h1:=hI.out.2.2.1;have h2:=HN.out.2.1;have h3:=HA.out.1.many;rw[ents_len] at h1;show _≤_;omega
     have h64:∀x∈A,R64 x:=fun x hx=>by
      rcases(HG.out x).1 hx with h1 | ⟨y,hy,hd⟩
      ·obtain⟨_,_,_,_,_,h2,_⟩:=HA.out.2.1;exact h2 x h1
      ·obtain⟨p,hp,rfl⟩:=mem_chgs.1 hy;obtain⟨_,_,_,_,_,⟨_,_,_,_,_,h2,_⟩,_⟩:=(HA.out.1.chgs p (List.mem_append_right _ hp)).1;exact h2 x hd
     have H64:Hid (∀x∈A,R64 x):=h64;have eg:∀args w,(callFunc 52 args).run Tryz.prog w=.ok (.enter 52 args) w:=enters_of Tryz.func52 (by kernel_rfl) rfl;have E1:=delW_any 52 eg (.pointer (some ⟨w.heap.size,0,none⟩)) (fun r=>(fnd (ents EH) (ents EW) r).isSome) (w.heap.size+1) vo A wr HM.out.row (by have:=HAL.out;omega) h64 (fun g9 hg9 r hr W hk=>by
      have hlo:=(HM.out.row.lt g9 hg9).1;have bW:Below w.heap.size w W:=HM.out.bel.trans (hk.below (B:=w.heap.size) (by simp;omega) HM.out.bel.size);exact miss1_any g h q w.heap.size EH EW r W (HA.out.1.below bW) (hk.heap HM.out.box (by simp;omega)) (h64 r hr))
     clear hc0 hl0 hI hrg h64 eg;go_wp2_with fail;go_fit E1;rintro e w4 ⟨u4,rfl,row4,gr4⟩;have HB4:Hid (Below w.heap.size w w4):=HM.out.bel.grown gr4 HM.out.bel.size (fun k e=>by have:=(HM.out.row.lt _ e).1;omega);obtain⟨F,hF⟩:=gNz (A.filter (fun r=> !(fnd (ents EH) (ents EW) r).isSome));rw[hF] at row4;have HF:Hid (∀x,x∈F↔x∈A∧x∉refsOf (chgsOf EH)∧x∉refsOf (chgsOf EW)):=fun x=>by
      rw[←hF,List.mem_filter];have h1:=fnd_some HA.out.1 x;constructor
      ·rintro⟨a,b⟩;have h2:¬(fnd (ents EH) (ents EW) x).isSome=true:=by simpa using b
       rw[h1] at h2;exact⟨a,fun e=>h2 (Or.inl e),fun e=>h2 (Or.inr e)⟩
      ·rintro⟨a,b,c⟩;refine⟨a,?_⟩;have h2:¬(fnd (ents EH) (ents EW) x).isSome=true:=by rw[h1];exact fun e=>e.elim b c
       simpa using h2
     have HFL:Hid (F.length≤900000):=by
      show _≤_;rw[←hF];exact Nat.le_trans (List.length_filter_le _ _) HAL.out
     obtain⟨ua,uc,rfl⟩:=slice_rowM row4;obtain⟨un,hun⟩:=gNz (F.length);rw[hun] at row4 ⊢;have E2:=sortW_any (.slice ua un uc) (w.heap.size+1) F w4 row4 (by have:=HFL.out;omega);have HR4:Hid (∀k,(Value.slice ua un uc).ownBlock=some k→w.heap.size+1≤k):=fun k e=>(row4.lt k e).1;clear E1 row4 gr4 hF;go_wp2_with fail;go_fit E2;rintro e w5 ⟨rfl,ts,q1,q2,q3,q4⟩;have HB5:Hid (Below w.heap.size w w5):=HB4.out.grown q4 HB4.out.size (fun k e=>by have:=HR4.out k e;omega);have HT:=hY3 q1 q2 ((by rw[q1.length_eq];exact HFL.out):ts.length≤900000);have E3:=compact_any (.slice ua un uc) (w.heap.size+1) ts w5 q3 (by have:=HT.out.2.2;omega);clear E2 q1 q2 q3 q4;go_wp2_with fail;go_fit E3;rintro e w6 ⟨u6,rfl,row6,gr6⟩;have HE:Hid ((∃O,IsPairs w6 u6 O∧MissP (chgsOf EH) (chgsOf EW) hs O)∧Below w.heap.size w w6):=by
      have hmem:∀x,x∈cmpN ts ts.length↔x∈F:=fun x=>by rw[cmpN_mem ts x ts.length lRf,List.take_length,HT.out.1.mem_iff]
      refine⟨⟨cmpN ts ts.length,RowPr.pairs row6 (by have:=cmpN_len ts ts.length;have:=HT.out.2.2;omega) (fun x hx=>H64.out x ((HF.out x).1 ((hmem x).1 hx)).1),cmpN_rise HT.out.2.1 _ lRf,fun x=>?_⟩,HB5.out.grown gr6 HB5.out.size (fun k e=>by have:=HR4.out k e;omega)⟩;rw[hmem,HF.out,HG.out]
     clear E3 row6 gr6;go_wp2;go_returns;obtain⟨⟨O,h1,h2⟩,h3⟩:=HE.out;exact⟨Or.inr ⟨HALL.out,_,O,rfl,h1,h2⟩,h3⟩
    ·intro x1 x2 c kl yd yp w3 cnt2 hkey hlk hv hat hrg2 hlt hg2 hs2 hen;obtain⟨x',ex,rfl,hx64⟩:=keyOf_inv hkey;obtain rfl:(x1,x2)=x':=by simpa [refV,Prod.ext_iff] using ex
     obtain⟨v,hlv⟩:∃v,lk (ents EW) (x1,x2)=some v:=Option.isSome_iff_exists.1 (hI.out.1 _ hx64 hlk);have hcv:c=v:=by
      have h1:=HD.out _ v hx64 hlv (.held v);have h2:=hat (.held v);unfold rawElem at hv;have h3:=congrArg Prod.fst (Option.some.inj hv);have h4:DataW.held c=.held v:=by
       have h5:DataW.held c=yd:=h3;rw[h5,←h2];exact h1
      exact DataW.held.inj h4
     subst hcv;obtain⟨c',hm,hcr⟩:=lk_ents hlv;have hchg:=HA.out.1.chgs _ (List.mem_append_right _ hm);obtain⟨ud,uo,lo,e1,_,hdp,⟨oa,oc,rfl,_⟩,_,hwd,_⟩:=id hchg.1;obtain⟨da,dn,dc,rfl⟩:∃a n c,ud=.slice a n c:=by obtain⟨a,c,e,_⟩:=hdp;exact⟨_,_,_,e⟩
     simp only at e1;obtain⟨on,hon⟩:=gNz (lo.length);obtain⟨ca,hca⟩:=gNz (c'.actor:Int);obtain⟨cs,hcs⟩:=gNz (c'.seq:Int);obtain⟨ct,hct⟩:=gNz (c'.start:Int);rw[hon,hca,hcs,hct] at e1;subst e1;have hI3:MisIn w g vo A w3:=⟨hI.out.2.2.2.1.row.kept hg2 (Or.inr hI.out.2.2.2.2.2),(hg2.block _ (lt_of_heap hI.out.2.2.2.1.box) (by intro e;have:=Option.some.inj e;have:=HIT.out.2;omega)).trans hI.out.2.2.2.1.box,hI.out.2.2.2.1.bel.grown hg2 hI.out.2.2.2.1.bel.size (fun k e=>by have:=Option.some.inj e;have:=HIT.out.2;omega)⟩
     have bA:=bAl w3 (.cells #[.int .i64 ca,.int .i64 cs,.int .i64 ct,.slice da dn dc,.slice oa on oc] 33);have hI4:=hI3.below bA;have hrg3:=hrg2.of_walks (KeepsWalks.alloc w3 (.cells #[.int .i64 ca,.int .i64 cs,.int .i64 ct,.slice da dn dc,.slice oa on oc] 33));have hfew:c'.deps.length≤12:=(chk_few (c:=c') hchg.2).1;have hnb:=HA.out.1.many;obtain⟨v9,U9,happ,row9,gr9,hv9⟩:=run_appP 30 (w3.alloc (.cells #[.int .i64 ca,.int .i64 cs,.int .i64 ct,.slice da dn dc,.slice oa on oc] 33)) (w.heap.size+1) (by have:=HIT.out.2;have:=hI.out.2.2.2.2.1;have:=bA.size;omega) vo (.slice da dn dc) A c'.deps hI4.row (hdp.below hI4.bel) hwd (by
      have h1:=hI.out.2.2.1;have h2:=HN.out.2.1;rw[ents_len] at h1;omega)
     have HRG:Hid (U9.ranges Tryz.prog 45 rawElem q it (ents EW).length D0 (fun z=>left z&& !z.sameKey (refL (x1,x2))) cnt2):=hrg3.kept gr9 (fun e=>by have h1:=(hI4.row.lt q e.symm).1;have h2:=HA.out.1.book.wait.lt;omega) (fun e=>hI.out.2.2.2.2.2 e.symm);have HNX:Hid ((∀r,R64 r→(left (refL r)&& !(refL r).sameKey (refL (x1,x2)))=true→(lk (ents EW) r).isSome=true)∧Gat EW hs (A++c'.deps) (fun z=>left z&& !z.sameKey (refL (x1,x2)))∧(A++c'.deps).length+12*cnt2≤hs.length+12*(ents EW).length∧MisIn w g v9 (A++c'.deps) U9∧it<U9.heap.size∧v9.ownBlock≠some it):=by
      refine⟨fun r hr hl=>hI.out.1 r hr (by simp at hl;exact hl.1),⟨fun x hx=>List.mem_append_left _ (hI.out.2.1.heads x hx),fun p hp=>?_,fun x hx=>?_⟩,?_,⟨row9,?_,?_⟩,?_,?_⟩
      ·by_cases e:p.1.ref=(x1,x2)
       ·right;intro d hd;have e2:p.1=c':=refs_inj (L:=chgsOf EW) (by rw[refs_chgs];exact(nodup_ents HA.out.1).2) (mem_chgs.2 ⟨p,hp,rfl⟩) (mem_chgs.2 ⟨_,hm,rfl⟩) (e.trans hcr.symm);exact List.mem_append_right _ (by rw[←e2];exact hd)
       ·rcases hI.out.2.1.seen p hp with h1 | h1
        ·left;have h64:=HA.out.1.book.wait.r64 (p.1.ref,p.2) (List.mem_map.2 ⟨p,hp,rfl⟩);rw[h1,Bool.true_and];rw[Maps.sameKey_ne (fun e1=>e (refL_inj h64 hx64 e1))];rfl
        ·exact Or.inr fun d hd=>List.mem_append_left _ (h1 d hd)
      ·rcases List.mem_append.1 hx with hx | hx
       ·exact hI.out.2.1.only x hx
       ·exact Or.inr ⟨_,hm,hx⟩
      ·rw[List.length_append];have:=hI.out.2.2.1;omega
      ·exact(gr9.block _ (lt_of_heap hI4.box) (fun e=>by have:=(hI4.row.lt _ e.symm).1;omega)).trans hI4.box
      ·exact hI4.bel.grown gr9 hI4.bel.size (fun k e=>by have:=(hI4.row.lt _ e).1;omega)
      ·have h1:=gr9.size;have h2:=bA.size;have h3:=hI.out.2.2.2.2.1;omega
      ·rcases hv9 with e | e
       ·rw[e];exact hI.out.2.2.2.2.2
       ·rw[e];intro e2;have h1:=Option.some.inj e2;have h2:=bA.size;have h3:=hI.out.2.2.2.2.1;omega
     have HL:Hid (cnt2<cnt):=hlt;have HLe:Hid _:=hrg.left_eq;have k3:=heap_alloc_new w3 (.cells #[.int .i64 ca,.int .i64 cs,.int .i64 ct,.slice da dn dc,.slice oa on oc] 33);have c3:(w3.alloc (.cells #[.int .i64 ca,.int .i64 cs,.int .i64 ct,.slice da dn dc,.slice oa on oc] 33)).cell? ⟨w3.heap.size,3,none⟩=some (.slice da dn dc):=cLo k3 3;clear hkey hlk hv hat hrg2 hlt hg2 hs2 hI3 hI4 hrg3 hfew hnb row9 gr9 hv9 bA hI hlv hm hcr hchg hdp hwd hca hcs hct hon hx64 ex k3 hrg;go_wp2_with (first | (at_builtin;refine wp_append rfl _ _ 30 rfl _ _ _ _ rfl rfl happ ?_));go_roundw
     case rel=>exact⟨_,cnt2,v9,_,rfl,HRG.out,HNX.out⟩
     case measure=>rw[HRG.out.left_eq,HLe.out];exact HL.out
def Met (EH:List CE) (left:Lit→Bool) (L:List (Pr×Value)):Prop:=∀p∈EH,left (refL p.1.ref)=true∨∀d∈p.1.deps,d∈L.map (·.1)
theorem putL_keys {L:List (Pr×Value)} {r x:Pr} {v:Value} (h:x∈L.map (·.1)∨x=r):x∈(putL L r v).map (·.1):=by
 unfold putL;rw[List.map_append];by_cases e:x=r
 ·rw[e];simp
 ·rcases h with h | h
  ·obtain⟨y,hy,rfl⟩:=List.mem_map.1 h;exact List.mem_append_left _ (List.mem_map.2 ⟨y,List.mem_filter.2 ⟨hy,by simpa using e⟩,rfl⟩)
  ·exact absurd h e
def IsHds (L:List Chg) (O:List Pr):Prop:=Rise O∧∀x,x∈O↔(x∈refsOf L∧∀y∈L,x∉y.deps)
def HeadsX (EH:List CE) (w:World) (v:Value) (w':World):Prop:=∃O,IsPairs w' v O∧Wh v∧IsHds (chgsOf EH) O∧Below w.heap.size w w'
theorem wh_row {T:TypeId} {B:Nat} {v:Value} {l:List Pr} {w:World} (h:RowPr T B v l w):Wh v:=by
 rcases h.2 with⟨e,_⟩ | ⟨g,cap,cur,e,_⟩
 ·exact Or.inl e
 ·exact Or.inr ⟨_,_,_,e⟩
theorem headsX_any (w:World) (g h q:Nat) (EH EW:List CE) (B:Bk w g h q EH EW):
 Calls Tryz.prog 12 #[.pointer (some ⟨g,0,none⟩)] w fun e w'=>∃v,e=.returned v∧HeadsX EH w v w':=by
 have hmm:=@run_makeMap Tryz.prog;obtain⟨W0,hW0⟩:∃W0,W0=(w.alloc (.map #[] 0)).alloc (.cells #[.map (some w.heap.size)] 86):=⟨_,rfl⟩
 have b0:Below w.heap.size w W0:=by rw[hW0];exact(bAl _ _).alloc (by simp) _
 have hs0:W0.heap.size=w.heap.size+2:=by rw[hW0];simp
 have M0:MapL W0 w.heap.size []:=by rw[hW0];exact(MapL.made w).below (bAl _ _)
 have T0:W0.heap[w.heap.size+1]?=some (.cells #[.map (some w.heap.size)] 86):=by
  rw[hW0];have:=heap_alloc_new (w.alloc (.map #[] 0)) (.cells #[.map (some w.heap.size)] 86);rw[show(w.alloc (.map #[] 0)).heap.size=w.heap.size+1 from by simp] at this;exact this
 have B0:=B.below b0;have c1:W0.cell? ⟨g,0,none⟩=some (.map (some h)):=cLo B0.book.box 0;obtain⟨D0,hown,hh,hat0,hsz⟩:=B0.book.has.own;have HB:Hid (Bk w g h q EH EW):=B;have H0:=hY4 b0 hs0 M0 T0;have zg:=lt_of_heap B0.book.box;have HD:Hid (∀r v,R64 r→lk (ents EH) r=some v→∀z,D0.atKey (refL r) z=.held v):=hat0;have HH:Hid (∀r,R64 r→Maps.has D0 (refL r)=(lk (ents EH) r).isSome):=hh;have HW:Hid _:=hW0;rw[hW0] at hown c1 zg;clear b0 hs0 M0 T0 B0 B hat0 hh hW0;go_enter Tryz.func12,Tryz.ntmps12
 go_wp2_with (first | (at_range;refine wpList_range_own _ rfl _ 75 rfl 45 33 refLaw Tryz.underlying75 _ h (ents EH).length D0 rfl hown ?_;intro w1 hrg0 hg0 hs1) | go_in);go_frame;rw[←HW.out] at hg0 hs1;have hsz0:((w.alloc (.map #[] 0)).alloc (.cells #[.map (some w.heap.size)] 86)).heap.size=w.heap.size+2:=by simp
 rw[hsz0] at hrg0 ⊢;have I0:HeadIn w EH [] w1:=by
  obtain⟨b0,hs0,M0,T0⟩:=H0.out;refine⟨M0.grown hg0 (by simp),hung_nil EH,grown_heap T0 hg0 (by simp),b0.grown hg0 b0.size (fun k e=>by cases e),by omega⟩
 have HI0:Hid _:=I0;clear I0 hg0 hs1 H0 c1 zg hsz0 HW hown hmm;go_loopw [5] (fun _ wr=>∃(left:Lit→Bool) (cnt:Nat) (LM:List (Pr×Value)),wr.ranges Tryz.prog 45 rawElem h (w.heap.size+2) (ents EH).length D0 left cnt∧Hid (∀r,R64 r→left (refL r)=true→(lk (ents EH) r).isSome=true)∧Hid (HeadIn w EH LM wr∧Met EH left LM)) (fun _ wr=>wr.rangeLeft h (w.heap.size+2))
 case atStart=>exact⟨_,_,[],hrg0,fun r hr hl=>by rw[←HH.out r hr];exact hl,HI0.out,fun p hp=>Or.inl (by
  have h64:=HB.out.book.has.r64 (p.1.ref,p.2) (List.mem_map.2 ⟨p,hp,rfl⟩);rw[HH.out _ h64];exact mem_keys.1 (List.mem_map.2 ⟨p,hp,rfl⟩))⟩
 case round=>
  clear hrg0 HI0;obtain⟨left,cnt,LM,hrg,hleft,hI⟩:=hrel;go_wp2_with (first | (at_next;refine wpList_next_ranges _ rfl _ rfl 45 refLaw rawElem refV id (fun key kl hk=>by obtain⟨x,hx,_⟩:=keyOf_inv hk;exact⟨x,hx⟩) (fun v _ _=>⟨v,rfl⟩) h (w.heap.size+2) (ents EH).length _ _ _ rfl hrg ?_ ?_) | go_in)
  ·intro hc0 hl0;have BW:=HB.out.below hI.out.1.2.2.2.1;have c1:wr.cell? ⟨g,0,none⟩=some (.map (some h)):=cLo BW.book.box 0;have zg:=lt_of_heap BW.book.box;have E1:=risingKeys_any h (ents EH) wr BW.book.has (by rw[ents_len];have:=BW.many;omega);have HME:Hid (∀p∈EH,∀d∈p.1.deps,d∈LM.map (·.1)):=fun p hp=>(hI.out.2 p hp).elim (fun e=>by rw[hl0] at e;cases e) id;clear hrg hleft hc0 hl0 BW;go_wp2_with fail;go_fit E1;rintro e w3 ⟨v,ts,rfl,t1,t2,t3,t4⟩;rw[ents_keys] at t1;have hI3:=hI.out.1.below t4;have eg:∀args w,(callFunc 45 args).run Tryz.prog w=.ok (.enter 45 args) w:=enters_of Tryz.func45 (by kernel_rfl) rfl;have hlen:ts.length=EH.length:=by have:=t1.length_eq;rw[List.length_map] at this;exact this
   have h64:∀r∈ts,R64 r:=fun r hr=>by
    have h1:=t1.mem_iff.1 hr;rw[←ents_keys] at h1;obtain⟨y,hy,rfl⟩:=List.mem_map.1 h1;exact HB.out.book.has.r64 y hy
   rcases t3.2 with⟨rfl,h0⟩ | ⟨gr,rc,cur,hv,hbase,hcur,_⟩
   ·have E2:=delF_nil 45 eg (.pointer (some ⟨w.heap.size+1,0,none⟩)) w3;have he:EH=[]:=List.length_eq_zero_iff.1 (by omega);have HZ:Hid (Below w.heap.size w w3):=hI3.2.2.2.1;clear t1 t2 t3 t4 hI3 eg hlen h64 E1 c1 zg hI HME;go_wp2_with fail;go_fit E2;rintro e w4 ⟨rfl,b4⟩;have HP:Hid (HeadsX EH w (.slice none 0 0) w4):=⟨[],RowPr.pairs (World.ownsRow_nil _ _ _ _:RowPr 45 0 _ [] _) (by simp) (fun _ h=>by cases h),Or.inl rfl,⟨List.Pairwise.nil,fun x=>by rw[refs_chgs,he];simp⟩,HZ.out.trans (b4.mono HZ.out.size)⟩
    clear E2 b4 he;go_wp2;go_ret;exact⟨_,rfl,HP.out⟩
   ·subst hv;have hm1:w.heap.size<wr.heap.size:=by have:=hI.out.1.2.2.2.2;omega
    have hm2:w.heap.size+1<wr.heap.size:=by have:=hI.out.1.2.2.2.2;omega
    have E2:=delF_any 45 eg (.pointer (some ⟨w.heap.size+1,0,none⟩)) (fun r=>decide (r∈LM.map (·.1))) wr.heap.size gr rc ts w3 t3 (by have:=HB.out.many;omega) h64 (fun r hr W hk=>hung_any w.heap.size (w.heap.size+1) LM r W (hI3.1.kp hk (by simp;omega)) hI3.2.1.1 (hk.heap hI3.2.2.1 (by simp;omega)) (h64 r hr));have HZ:=hY3 hI3.2.2.2.1 hbase ((by omega):w.heap.size≤wr.heap.size);have HF:Hid (∀(u:Value) (W:World),RowPr 45 wr.heap.size u (ts.filter fun r=> !decide (r∈LM.map (·.1))) W→∃O,IsPairs W u O∧Wh u∧IsHds (chgsOf EH) O):=fun u W hrow=>by
     refine⟨_,RowPr.pairs hrow (Nat.le_trans (List.length_filter_le _ _) (by have:=HB.out.many;omega)) (fun q hq=>h64 q (List.mem_filter.1 hq).1),wh_row hrow,List.Pairwise.sublist List.filter_sublist t2,fun x=>?_⟩;rw[List.mem_filter,t1.mem_iff,refs_chgs];simp only[Bool.not_eq_true',decide_eq_false_iff_not];constructor
     ·rintro⟨h1,h2⟩;refine⟨h1,fun y hy hd=>?_⟩;obtain⟨p,hp,rfl⟩:=mem_chgs.1 hy;exact h2 (HME.out p hp x hd)
     ·rintro⟨h1,h2⟩;refine⟨h1,fun e2=>?_⟩;obtain⟨p,hp,hd⟩:=hI3.2.1.2 _ e2;exact h2 p.1 (mem_chgs.2 ⟨p,hp,rfl⟩) hd
    clear t1 t2 t3 t4 hI3 eg hlen h64 E1 c1 zg hI hbase hcur hm1 hm2 HME;go_wp2_with fail;go_fit E2;rintro e w4 ⟨u,rfl,hd⟩;have HP:Hid (HeadsX EH w u w4):=by
     obtain⟨d1,d2,_⟩:=hd;obtain⟨O,o1,o3,o2⟩:=HF.out u w4 d1;exact⟨O,o1,o3,o2,HZ.out.1.trans ((d2 gr rfl).below (B:=w.heap.size) (by simp;have:=HZ.out;omega) HZ.out.1.size)⟩
    clear E2 hd;go_wp2;go_ret;exact⟨_,rfl,HP.out⟩
  ·intro x1 x2 c kl yd yp w2 cnt2 hkey hlk hv hat hrg2 hlt hg2 hs2 hen;obtain⟨x',ex,rfl,hx64⟩:=keyOf_inv hkey;obtain rfl:(x1,x2)=x':=by simpa [refV,Prod.ext_iff] using ex
   obtain⟨v,hlv⟩:∃v,lk (ents EH) (x1,x2)=some v:=Option.isSome_iff_exists.1 (hleft.out _ hx64 hlk);have hcv:c=v:=by
    have h1:=HD.out _ v hx64 hlv (.held v);have h2:=hat (.held v);unfold rawElem at hv;have h3:=congrArg Prod.fst (Option.some.inj hv);have h4:DataW.held c=.held v:=by
     have h5:DataW.held c=yd:=h3;rw[h5,←h2];exact h1
    exact DataW.held.inj h4
   subst hcv;obtain⟨c',hm,hcr0⟩:=lk_ents hlv;have hI2:HeadIn w EH LM w2:=by
    obtain⟨M,hu,T,bel,z⟩:=hI.out.1;refine⟨M.grown hg2 (by simp),hu,grown_heap T hg2 (by simp),bel.grown hg2 bel.size (fun k e=>by cases e;omega),by omega⟩
   have hcr:c'.ref=(x1,x2):=hcr0;have HMET:Hid (∀p∈EH,p.1=c'∨(left (refL p.1.ref)&& !(refL p.1.ref).sameKey (refL (x1,x2)))=true∨∀d∈p.1.deps,d∈LM.map (·.1)):=fun p hp=>by
    by_cases e:p.1.ref=(x1,x2)
    ·exact Or.inl (refs_inj (L:=chgsOf EH) (by rw[refs_chgs];exact(nodup_ents HB.out).1) (mem_chgs.2 ⟨p,hp,rfl⟩) (mem_chgs.2 ⟨_,hm,rfl⟩) (e.trans hcr.symm))
    ·rcases hI.out.2 p hp with h1 | h1
     ·have h64:=HB.out.book.has.r64 (p.1.ref,p.2) (List.mem_map.2 ⟨p,hp,rfl⟩);refine Or.inr (Or.inl ?_);rw[h1,Bool.true_and];rw[Maps.sameKey_ne (fun e1=>e (refL_inj h64 hx64 e1))];rfl
     ·exact Or.inr (Or.inr h1)
   clear hcr hcr0;have hchg:=(HB.out.chgs _ (List.mem_append_left _ hm))
   obtain⟨ca,cs,ct,da,dn,dc,oa,on,oc,hpe⟩:=hchg.1.cv;simp only at hpe;subst hpe;obtain⟨ud,uo,lo,e1,_,hdp,_⟩:=hchg.1;simp at e1;obtain⟨y1,y2,y3,hud,y5⟩:=e1;subst hud;clear y1 y2 y3 y5;have hdp':IsPairs w (.slice da dn dc) c'.deps:=hdp;have hck:chk c'=0:=hchg.2;clear hdp hchg;obtain⟨da',dc',hde,hd1,hd2,hd64,hd3⟩:=hdp';obtain⟨rfl,rfl,rfl⟩:=Value.slice.inj hde;clear hde;have bA:=bAl w2 (.cells #[.int .i64 ca,.int .i64 cs,.int .i64 ct,.slice da c'.deps.length dc,.slice oa on oc] 33);have hI3:=hI2.below bA;have hrg3:=hrg2.of_walks (KeepsWalks.alloc w2 (.cells #[.int .i64 ca,.int .i64 cs,.int .i64 ct,.slice da c'.deps.length dc,.slice oa on oc] 33));have HM:=hY2 hm ((chk_few hck).1);have HP:Hid (c'.deps≠[]→∃b off,da=some ⟨b,off,none⟩∧b<w.heap.size∧∀i (h:i<c'.deps.length),w.cell? ⟨b,off+i*2,none⟩=some (.int .i64 c'.deps[i].1)∧w.cell? ⟨b,off+i*2+1,none⟩=some (.int .i64 c'.deps[i].2)):=hd3;have HR:Hid (∀d∈c'.deps,R64 d):=hd64;have HI3:Hid _:=hI3;have HG3:Hid _:=hrg3;have HL:Hid (cnt2<cnt):=hlt;have HLe:Hid _:=hrg.left_eq;have HXL:Hid (∀r,R64 r→(left (refL r)&& !(refL r).sameKey (refL (x1,x2)))=true→(lk (ents EH) r).isSome=true):=fun r hr hl=>hleft.out r hr (by simp at hl;exact hl.1);clear hs2 hI2 hI3 hrg2 hrg3 hck hd1 hd2 hd64 hd3 hI hleft hlv hat hv hlk hkey ex bA hg2 hm hlt;go_wp2_with fail;go_loopw [21] (fun i wr=>∃(k:Nat) (LM:List (Pr×Value)),k≤c'.deps.length∧i=.int .i64 k∧Hid (HeadIn w EH LM wr∧(∀p∈EH,p.1=c'∨(left (refL p.1.ref)&& !(refL p.1.ref).sameKey (refL (x1,x2)))=true∨∀d∈p.1.deps,d∈LM.map (·.1))∧∀d∈c'.deps.take k,d∈LM.map (·.1))∧Hid (wr.ranges Tryz.prog 45 rawElem h (w.heap.size+2) (ents EH).length D0 (fun z=>left z&& !z.sameKey (refL (x1,x2))) cnt2)) (fun i _=>c'.deps.length - (RowKit.intOf i).toNat)
   case atStart=>exact⟨0,LM,Nat.zero_le _,rfl,⟨HI3.out,HMET.out,fun _ h=>by simp at h⟩,HG3.out⟩
   case round=>
    clear HI3 HG3 HMET;obtain⟨k,LM',hk,rfl,hI,hG⟩:=hrel;by_cases hlt:k<c'.deps.length
    ·obtain⟨b,off,rfl,h4,h5⟩:=HP.out (fun e=>by rw[e] at hlt;simp at hlt);have bel:=hI.out.1.2.2.2.1;have x0:wr.cell? ⟨b,off+k*2,none⟩=some (.int .i64 c'.deps[k].1):=by rw[bel.cell (p:=⟨b,off+k*2,none⟩) h4];exact(h5 k hlt).1
     have x1':wr.cell? ⟨b,off+k*2+1,none⟩=some (.int .i64 c'.deps[k].2):=by rw[bel.cell (p:=⟨b,off+k*2+1,none⟩) h4];exact(h5 k hlt).2
     have hr64:=HR.out c'.deps[k] (List.getElem_mem hlt);have hmem:c'.deps[k]∈c'.deps:=List.getElem_mem hlt;obtain⟨r,hr⟩:=gNz (c'.deps[k]);rw[hr] at x0 x1' hr64 hmem;have bA:=bAl wr (.cells #[.int .i64 r.1,.int .i64 r.2] 45);have hI1:=hI.out.1.below bA;have hG1:=hG.out.of_walks (KeepsWalks.alloc wr (.cells #[.int .i64 r.1,.int .i64 r.2] 45));obtain⟨V,hput,hM,ht⟩:=hI1.1.put Tryz.underlying86 hr64 (hung_few hI1.2.1 hI1.1.nd (fun p hp=>(chk_few (HB.out.chgs p (List.mem_append_left _ hp)).2).1) (by have:=HB.out.many;omega)) (.int .i64 1);have kp:=Kp.turned ht;have HN:Hid (HeadIn w EH (putL LM' r (.int .i64 1)) V∧(∀p∈EH,p.1=c'∨(left (refL p.1.ref)&& !(refL p.1.ref).sameKey (refL (x1,x2)))=true∨∀d∈p.1.deps,d∈(putL LM' r (.int .i64 1)).map (·.1))∧∀d∈c'.deps.take (k+1),d∈(putL LM' r (.int .i64 1)).map (·.1)):=⟨⟨hM,hI1.2.1.put HM.out.1 hmem,kp.heap hI1.2.2.1 (by simp),hI1.2.2.2.1.trans (kp.below (B:=w.heap.size) (by simp) hI1.2.2.2.1.size),Nat.le_trans hI1.2.2.2.2 kp.size⟩,fun p hp=>(hI.out.2.1 p hp).imp id fun h=>h.imp id fun h d hd=>putL_keys (Or.inl (h d hd)),fun d hd=>by
      rw[take_snocE _ k hlt,hr] at hd;rcases List.mem_append.1 hd with hd | hd
      ·exact putL_keys (Or.inl (hI.out.2.2 d hd))
      ·exact putL_keys (Or.inr (List.mem_singleton.1 hd))⟩
     have HGN:Hid (V.ranges Tryz.prog 45 rawElem h (w.heap.size+2) (ents EH).length D0 (fun z=>left z&& !z.sameKey (refL (x1,x2))) cnt2):=hG1.kept ht.grown (fun e=>by have h1:=HB.out.book.has.lt;have:=Option.some.inj e;omega) (fun e=>by have:=Option.some.inj e;omega);have c0:wr.cell? ⟨w.heap.size+1,0,none⟩=some (.map (some w.heap.size)):=cLo hI.out.1.2.2.1 0;have z0:=lt_of_heap hI.out.1.2.2.1;have g1:(k:Int)<c'.deps.length:=by omega
     have g2:(k:Int)<1000000:=by have:=HM.out.2;omega
     have HK:Hid (k<c'.deps.length):=hlt;clear h5 hk hlt bel hmem hr bA hI1 hG1 hM ht kp hI hG hr64;go_wp2;go_roundw
     case rel=>exact⟨k+1,_,HK.out,by go_num,HN.out,HGN.out⟩
     case measure=>simp[RowKit.intOf];have:=HK.out;omega
    ·have g1:¬(k:Int)<c'.deps.length:=by omega
     have hk':k=c'.deps.length:=by omega
     clear hlt hk;subst hk';go_wp2;go_roundw
     case rel=>exact⟨_,cnt2,LM',hG.out,HXL.out,hI.out.1,fun p hp=>by
      rcases hI.out.2.1 p hp with e | e | e
      ·right;rw[e];intro d hd;exact hI.out.2.2 d (by rw[List.take_length];exact hd)
      ·exact Or.inl e
      ·exact Or.inr e⟩
     case measure=>rw[hG.out.left_eq,HLe.out];exact HL.out
end Go.Proofs.YtamhlgflbacjgaaGreat
