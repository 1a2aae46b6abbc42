/-
  What is proved: as each theorem says.
  Conditions: as each theorem says.
-/
import Derived.Test.YtamhlgflbacjgaaGreatF00
import Derived.Test.YtamhlgflbacjgaaGreatF25
import Derived.Test.YtamhlgflbacjgaaGreatF30
import Derived.Test.YtamhlgflbacjgaaGreatF24
import Derived.Test.YtamhlgflbacjgaaGreatF26
import Derived.Deep.CutBlock
set_option maxRecDepth 100000
set_option maxHeartbeats 16000000
namespace Go.Proofs.YtamhlgflbacjgaaGreat
open Go.RowKit Go.Sort
def FInv (L:List Chg):Prop:=∀pre c post,L=pre++c::post→FitC pre c
theorem FInv.nil:FInv []:=fun pre c post h=>by simp at h
theorem FInv.snoc {L:List Chg} {c:Chg} (h:FInv L) (hc:FitC L c):FInv (L++[c]):=fun pre d post e=>by
 rcases List.eq_nil_or_concat post with rfl | ⟨post',x,rfl⟩
 ·have h1:=List.append_inj' e rfl;have h2:c=d:=by simpa using h1.2
  rw[←h1.1,←h2];exact hc
 ·have e':L++[c]=(pre++d::post')++[x]:=by rw[e];simp
  exact h pre d post' (List.append_inj' e' rfl).1
theorem WStep.finv {L W L' W':List Chg} (h:WStep L W L' W') (hf:FInv L):FInv L':=by
 obtain⟨c,_,h1,_⟩:=h;rcases h1 with⟨hc,rfl⟩ | ⟨_,rfl⟩
 ·exact hf.snoc hc
 ·exact hf
theorem WSteps.finv:∀(n:Nat) {L W L' W':List Chg},WSteps n L W L' W'→FInv L→FInv L'
 | 0,_,_,_,_,h,hf=>by rw[h.1];exact hf
 | n+1,_,_,_,_,h,hf=>by
  obtain⟨L1,W1,h1,h2⟩:=h;exact h2.finv (WSteps.finv n h1 hf)
theorem TakeR.finv {L W:List Chg} {c:Chg} {L' W':List Chg} (h:TakeR L W c L' W') (hf:FInv L):FInv L':=by
 by_cases h1:chk c=0
 ·by_cases h2:c.ref∈refsOf L∨c.ref∈refsOf W
  ·rw[(h.old h1 h2).1];exact hf
  ·rcases Nat.lt_or_ge (L.length+W.length) 120 with h3 | h3
   ·by_cases h4:Ready L c
    ·by_cases h5:FitC L c
     ·obtain⟨n,hn,_⟩:=h.take h1 h2 h3 h4 h5;exact WSteps.finv n hn (hf.snoc h5)
     ·rw[(h.unfit h1 h2 h3 h4 h5).1];exact hf
    ·rw[(h.wait h1 h2 h3 h4).1];exact hf
   ·rw[(h.full h1 h2 h3).1];exact hf
 ·rw[(h.bad h1).1];exact hf
def startN (L:List Chg):Int:=L.foldl (fun n c=>if n<c.start+(c.ops.length:Int) then c.start+(c.ops.length:Int) else n) 1
def startS (act:Int) (L:List Chg):Int:=L.foldl (fun s c=>if c.actor=act∧s≤c.seq then c.seq+1 else s) 1
theorem startN_snoc (L:List Chg) (c:Chg):startN (L++[c])=if startN L<c.start+(c.ops.length:Int) then c.start+(c.ops.length:Int) else startN L:=by
 unfold startN;rw[List.foldl_append];rfl
theorem startS_snoc (act:Int) (L:List Chg) (c:Chg):startS act (L++[c])=if c.actor=act∧startS act L≤c.seq then c.seq+1 else startS act L:=by
 unfold startS;rw[List.foldl_append];rfl
theorem startN_facts:∀(L:List Chg) (m:Int),m≤L.foldl (fun n c=>if n<c.start+(c.ops.length:Int) then c.start+(c.ops.length:Int) else n) m∧∀c∈L,c.start+(c.ops.length:Int)≤L.foldl (fun n c=>if n<c.start+(c.ops.length:Int) then c.start+(c.ops.length:Int) else n) m
 | [],m=>⟨Int.le_refl _,fun _ h=>by cases h⟩
 | c::L,m=>by
  rw[List.foldl_cons];obtain⟨h1,h2⟩:=startN_facts L (if m<c.start+(c.ops.length:Int) then c.start+(c.ops.length:Int) else m);have h3:m≤(if m<c.start+(c.ops.length:Int) then c.start+(c.ops.length:Int) else m)∧c.start+(c.ops.length:Int)≤(if m<c.start+(c.ops.length:Int) then c.start+(c.ops.length:Int) else m):=by split <;> omega
  refine⟨Int.le_trans h3.1 h1,fun x hx=>?_⟩;rcases List.mem_cons.1 hx with rfl | hx
  ·exact Int.le_trans h3.2 h1
  ·exact h2 x hx
theorem startN_top:∀(L:List Chg) (m:Int),m≤1000040→(∀c∈L,SmallC c)→L.foldl (fun n c=>if n<c.start+(c.ops.length:Int) then c.start+(c.ops.length:Int) else n) m≤1000040
 | [],m,h,_=>h
 | c::L,m,h,hs=>by
  rw[List.foldl_cons];have:=hs c (List.mem_cons_self ..);refine startN_top L _ ?_ fun x hx=>hs x (List.mem_cons_of_mem _ hx);have h1:=this.1;have h2:=this.2.1;have h3:=this.2.2;split <;> omega
theorem startN_range {L:List Chg} (hs:∀c∈L,SmallC c):1≤startN L∧startN L≤1000040:=⟨(startN_facts L 1).1,startN_top L 1 (by omega) hs⟩
theorem startN_above {L:List Chg} {c:Chg} (h:c∈L):c.start+(c.ops.length:Int)≤startN L:=(startN_facts L 1).2 c h
theorem startS_range (act:Int):∀(L:List Chg),(∀c∈L,c.seq≤1000000)→∀m:Int,1≤m→m≤1000001→1≤L.foldl (fun s c=>if c.actor=act∧s≤c.seq then c.seq+1 else s) m∧L.foldl (fun s c=>if c.actor=act∧s≤c.seq then c.seq+1 else s) m≤1000001
 | [],_,m,h1,h2=>⟨h1,h2⟩
 | c::L,hs,m,h1,h2=>by
  rw[List.foldl_cons];have:=hs c (List.mem_cons_self ..);refine startS_range act L (fun x hx=>hs x (List.mem_cons_of_mem _ hx)) _ ?_ ?_
  ·split
   ·rename_i h;omega
   ·omega
  ·split <;> omega
theorem op_up {L:List Chg} (I:Inv L) (hF:FInv L) {q:OpM×Pr} (hq:q∈opsK L) (hi:q.1.ins=true):q.1.elem.1<q.2.1:=by
 obtain⟨c,hc,hq⟩:=mem_opsK.1 hq;obtain⟨k,hk,rfl⟩:=mem_opsC.1 hq;obtain⟨pre,post,hL⟩:=List.append_of_mem hc;obtain⟨D,hD,_,hN,hM⟩:=hF pre c post hL;have hok:=I.ok c hc;have hst:=(chk_few hok).2.2.2.2.2.1;have h:=hM k hk;unfold mayM at h;dsimp only at hi ⊢;cases hkd:kindM c.ops[k] (lkc (subL pre D++[cutC c k])) with
 | none=>rw[hkd] at h;cases h
 | some kd=>
  rw[hkd] at h;simp only[Bool.and_eq_true] at h;have he:=h.1.2;unfold elM at he;rcases(Bool.or_eq_true _ _).mp he with h0 | h0
  ·have:c.ops[k].elem.1=0:=by
    exact(of_decide_eq_true h0).1
   omega
  ·cases hl:lkc (subL pre D++[cutC c k]) c.ops[k].elem with
   | none=>rw[hl] at h0;cases h0
   | some p=>
    unfold lkc at hl;obtain⟨x,hx,_⟩:=Option.map_eq_some_iff.1 hl;have hid:=of_decide_eq_true (List.find?_some (p:=(hasId · c.ops[k].elem)) hx);rcases List.mem_append.1 (List.mem_of_find?_eq_some hx) with hm | hm
    ·obtain⟨m1,m2⟩:=mem_subL.1 hm;have ho:x.ops≠[]:=fun e=>by rw[e] at hid;simp at hid;omega
     have:=hN x m1 m2 ho;omega
    ·rw[List.mem_singleton.1 hm] at hid;have h3:(cutC c k).ops.length≤k:=by
      show(c.ops.take k).length≤k;rw[List.length_take];omega
     have h4:(cutC c k).start=c.start:=rfl;omega
theorem ids_nd {L:List Chg} (I:Inv L):((opsK L).map (·.2)).Nodup:=by
 have hu:=I.uniq;have hn:L.Nodup:=by
  have:=I.nd;unfold refsOf at this;exact List.Pairwise.imp (fun h e=>h (by rw[e])) (List.pairwise_map.1 this)
 unfold opsK;rw[List.map_flatMap];unfold List.Nodup;refine List.pairwise_flatMap.2 ⟨fun c _=>?_,?_⟩
 ·refine List.pairwise_iff_getElem.2 fun i j hi hj hij e=>?_;simp only[List.length_map] at hi hj;simp only[List.getElem_map] at e;unfold opsC at e;simp only[List.getElem_map,List.getElem_zipIdx,Prod.mk.injEq] at e;omega
 ·refine List.Pairwise.imp_of_mem ?_ hn;intro x y hx hy hne a ha b hb e;subst e;have has:∀z:Chg,a∈(opsC z).map (·.2)→hasId z a=true:=fun z hz=>by
   obtain⟨q,hq,rfl⟩:=List.mem_map.1 hz;obtain⟨k,hk,rfl⟩:=mem_opsC.1 hq;unfold hasId;simp;omega
  exact hne (hu x hx y hy a (has x ha) (has y hb))
def pendK (n act:Int) (P:List OpM):List (OpM×Pr):=P.zipIdx.map fun p=>(p.1,(n+(p.2:Int),act))
def PendOk (n:Int) (P:List OpM):Prop:=∀i (h:i<P.length),P[i].ins=true→P[i].elem.1<n+(i:Int)
theorem mem_pend {n act:Int} {P:List OpM} {q:OpM×Pr} (h:q∈pendK n act P):∃i,∃h:i<P.length,q=(P[i],(n+(i:Int),act)):=by
 unfold pendK at h;obtain⟨p,hp,rfl⟩:=List.mem_map.1 h;obtain⟨h1,h2⟩:=List.mem_zipIdx' hp;exact⟨p.2,h1,by rw[h2]⟩
theorem ids_below {L:List Chg} {q:OpM×Pr} (h:q∈opsK L):q.2.1<startN L:=by
 obtain⟨c,hc,hq⟩:=mem_opsK.1 h;obtain⟨k,hk,rfl⟩:=mem_opsC.1 hq;have:=startN_above hc;dsimp only;omega
theorem kOk {L:List Chg} (I:Inv L) (hF:FInv L) {act:Int} {P:List OpM} (hP:PendOk (startN L) P):KOk (startN L+(P.length:Int)) (opsK L++pendK (startN L) act P):=by
 refine⟨?_,fun q hq hi=>?_,fun q hq=>?_⟩
 ·rw[List.map_append];refine List.nodup_append.2 ⟨ids_nd I,?_,fun a ha b hb e=>?_⟩
  ·unfold pendK;refine List.pairwise_iff_getElem.2 fun i j hi hj hij e=>?_;simp only[List.length_map] at hi hj;simp only[List.getElem_map,List.getElem_zipIdx,Prod.mk.injEq] at e;omega
  ·subst e;obtain⟨p,hp,rfl⟩:=List.mem_map.1 ha;obtain⟨q,hq,e⟩:=List.mem_map.1 hb;have h1:=ids_below hp;obtain⟨i,hi,rfl⟩:=mem_pend hq;rw[←e] at h1;dsimp only at h1;omega
 ·rcases List.mem_append.1 hq with hq | hq
  ·exact op_up I hF hq hi
  ·obtain⟨i,h,rfl⟩:=mem_pend hq;exact hP i h hi
 ·rcases List.mem_append.1 hq with hq | hq
  ·have:=ids_below hq;omega
  ·obtain⟨i,h,rfl⟩:=mem_pend hq;dsimp only;omega
theorem take_c {l:List CX} {k:Nat} {x:CX} (h:l[k]?=some x):(l.take (k+1)).map (·.c)=(l.take k).map (·.c)++[x.c]:=by
 rw[List.take_add_one,h];simp
theorem rStart_any (h g:Nat) (act:Int) (l:List CX) (vl vw vp:Value) (w:World) (hb:w.heap[h]?=some (.cells #[.int .i64 act,.pointer (some ⟨g,0,none⟩),vp] 68)) (bb:w.heap[g]?=some (.cells #[vl,vw] 73)) (hv:IsChgs w vl l) (hok:∀x∈l,chk x.c=0) (hl:l.length≤1000):
 Calls Tryz.prog 61 #[.pointer (some ⟨h,0,none⟩)] w fun e w'=>e=.returned (.tuple #[.int .i64 (startN (l.map (·.c))),.int .i64 (startS act (l.map (·.c)))])∧Below w.heap.size w w':=by
 obtain⟨la,ln,lc,rfl⟩:∃a n c,vl=.slice a n c:=by obtain⟨a,c,e,_⟩:=hv;exact⟨_,_,_,e⟩
 have hln:ln=l.length:=by obtain⟨_,_,e,_⟩:=hv;exact(Value.slice.inj e).2.1
 have HV:=hY2 hv hok;have HLN:=hY2 hln hl;have HBX:=hY2 hb bb;obtain⟨post,hpost⟩:∃post:Ending→World→Prop,post=fun e w'=>e=.returned (.tuple #[.int .i64 (startN (l.map (·.c))),.int .i64 (startS act (l.map (·.c)))])∧Below w.heap.size w w':=⟨_,rfl⟩
 have HPO:Hid (post=fun e w'=>e=.returned (.tuple #[.int .i64 (startN (l.map (·.c))),.int .i64 (startS act (l.map (·.c)))])∧Below w.heap.size w w'):=hpost;rw[←hpost];clear hv hok hl hln hb bb hpost;go_enter Tryz.func61,Tryz.ntmps61
 go_wp2_with fail;go_loopw [4,5,6] (fun nn ss i wr=>∃(k:Nat) (n0 s0:Int),k≤ln∧i=.int .i64 (k:Int)∧nn=.int .i64 n0∧ss=.int .i64 s0∧Hid (n0=startN ((l.take k).map (·.c))∧s0=startS act ((l.take k).map (·.c))∧Below w.heap.size w wr)) (fun _ _ i _=>ln - (RowKit.intOf i).toNat)
 case atStart=>exact⟨0,1,1,Nat.zero_le _,rfl,rfl,rfl,rfl,rfl,Below.refl _ _⟩
 case round=>
  obtain⟨k,n0,s0,hk,rfl,rfl,rfl,HR⟩:=hrel;have hbw:=heap_below HBX.out.1 HR.out.2.2 lRf;have hgw:=heap_below HBX.out.2 HR.out.2.2 lRf;obtain⟨d0,d1,-⟩:=cLs hbw;have d2:wr.cell? ⟨g,0,none⟩=some (.slice la ln lc):=cLo hgw 0;clear hbw hgw;by_cases hlt:k<ln
  ·obtain⟨x,hx⟩:∃x,l[k]?=some x:=⟨_,List.getElem?_eq_getElem (by have:=HLN.out.1;omega)⟩
   have hxl:x∈l:=List.mem_of_getElem? hx;obtain⟨b,off,rfl,hbl,hlq,hnc,hin,hc,hone⟩:=chgs_one HV.out.1 hx;clear hlq hone hnc;have hcf:=chk_few (HV.out.2 x hxl);obtain⟨xc,ud,uo⟩:=x;obtain⟨ud',uo',lo,e,i1,i2,i3,⟨da,dc,hda,_⟩,⟨ya,yc,hya,hyl⟩,hlo⟩:=id hin;simp only[CX.val,Value.agg.injEq,Array.mk.injEq,List.cons.injEq,and_true,true_and] at e;obtain⟨rfl,rfl⟩:=e;dsimp only at hda hya hcf hlo;subst hda hya;have hyn0:lo.length=xc.ops.length:=by rw[←hlo,List.length_map]
   obtain⟨dn,hdn⟩:=gNz (xc.deps.length);obtain⟨yn,hyn⟩:=gNz (lo.length);rw[hdn,hyn] at hc hx;obtain⟨sm,hsm⟩:=gNz (xc.start+(yn:Int):Int);have hw1:IntKind.i64.wrap (xc.start+(yn:Int))=sm:=by rw[IntWalk.i64_in _ (by omega)];exact hsm
   have hw2:IntKind.i64.wrap (xc.seq+1)=xc.seq+1:=IntWalk.i64_in _ (by omega);have hw3:IntKind.i64.wrap ((k:Int)+1)=(k:Int)+1:=IntWalk.i64_in _ (by have:=HLN.out;omega);have HN1:Hid (startN ((l.take (k+1)).map (·.c))=if n0<sm then sm else n0):=by
    show _=_;rw[take_c hx,startN_snoc,←HR.out.1,←hyn0,hyn,hsm]
   have HS1:Hid (startS act ((l.take (k+1)).map (·.c))=if xc.actor=act∧s0≤xc.seq then xc.seq+1 else s0):=by
    show _=_;rw[take_c hx,startS_snoc,←HR.out.2.1]
   have z0:=(HR.out.2.2.cell (p:=⟨b,off+k*5+0,none⟩) hbl).trans (hc 0 (by omega));have z1:=(HR.out.2.2.cell (p:=⟨b,off+k*5+1,none⟩) hbl).trans (hc 1 (by omega));have z2:=(HR.out.2.2.cell (p:=⟨b,off+k*5+2,none⟩) hbl).trans (hc 2 (by omega));have z3:=(HR.out.2.2.cell (p:=⟨b,off+k*5+3,none⟩) hbl).trans (hc 3 (by omega));have z4:=(HR.out.2.2.cell (p:=⟨b,off+k*5+4,none⟩) hbl).trans (hc 4 (by omega));simp only[CX.cells,List.getElem?_cons_zero,List.getElem?_cons_succ,Nat.add_zero] at z0 z1 z2 z3 z4;have g1:(k:Int)<ln:=by omega
   have g3:(0:Int)≤k:=by omega
   have HLT:Hid (k<ln):=hlt;have HW3:Hid (IntKind.i64.wrap ((k:Int)+1)=(k:Int)+1):=hw3;clear hlt hk hxl hbl hin hc hcf hlo hyn0 hdn hyn hsm hx i1 i2 i3 hyl hw3;go_upto_region 7 with fail
   have HO1:=hY2 (heap_alloc_new wr _:(wr.alloc (.cells #[.int .i64 xc.actor,.int .i64 xc.seq,.int .i64 xc.start,.slice da dn dc,.slice ya yn yc] 33)).heap[wr.heap.size]?=some (.cells #[.int .i64 xc.actor,.int .i64 xc.seq,.int .i64 xc.start,.slice da dn dc,.slice ya yn yc] 33)) (bAl _ _:Below wr.heap.size wr (wr.alloc (.cells #[.int .i64 xc.actor,.int .i64 xc.seq,.int .i64 xc.start,.slice da dn dc,.slice ya yn yc] 33)));generalize wr.alloc (.cells #[.int .i64 xc.actor,.int .i64 xc.seq,.int .i64 xc.start,.slice da dn dc,.slice ya yn yc] 33)=w1 at *;clear z0 z1 z2 z3 z4 d0 d1 d2 g1 g3;obtain⟨-,-,y2,-,y4,-⟩:=cLs HO1.out.1;go_upto_if 37 with fail
   go_cut [4] from 37 to 43 (fun nn wx=>nn=.int .i64 (if n0<sm then sm else n0)∧wx=w1)
   case first=>
    by_cases hn:n0<sm
    ·have HI:Hid (sm=if n0<sm then sm else n0):=(if_pos hn).symm;go_wp2;go_meet
     case rel=>exact⟨congrArg _ HI.out,rfl⟩
    ·have HI:Hid (n0=if n0<sm then sm else n0):=(if_neg hn).symm;go_wp2;go_meet
     case rel=>exact⟨congrArg _ HI.out,rfl⟩
   case rest=>
    obtain⟨rfl,rfl⟩:=hcut;rw[←HN1.out];obtain⟨n1,hn1⟩:=gNz (startN ((l.take (k+1)).map (·.c)):Int);have HN2:Hid (n1=startN ((l.take (k+1)).map (·.c))):=hn1.symm;rw[hn1];clear hn1 HN1 y2 y4 hw1;have hbw:=heap_below (heap_below HBX.out.1 HR.out.2.2 lRf) HO1.out.2 lRf;obtain⟨y0,y1,-⟩:=cLs HO1.out.1;have d0:wc.cell? ⟨h,0,none⟩=some (.int .i64 act):=cLo hbw 0;have HBL:=hY2 (drew_of (HR.out.2.2.trans (HO1.out.2.mono HR.out.2.2.size))) HO1.out.1;clear hbw;go_upto_region 9 with fail
    refine rNh (fun W=>W.cell? ⟨wr.heap.size,0,none⟩=some (.int .i64 xc.actor)∧W.cell? ⟨wr.heap.size,1,none⟩=some (.int .i64 xc.seq)∧W.cell? ⟨h,0,none⟩=some (.int .i64 act)) (⟨y0,y1,d0⟩) (fun hHeld=>?_);clear y0 y1 d0;obtain⟨-,y1,-⟩:=cLs HBL.out.2;by_cases ha:xc.actor=act
    ·by_cases hs:s0≤xc.seq
     ·have HS2:Hid (startS act ((l.take (k+1)).map (·.c))=xc.seq+1):=by show _=_;rw[HS1.out,if_pos ⟨ha,hs⟩]
      have hd:(xc.actor==act)=true:=by simpa using ha
      clear ha HS1;refine tk 0 rfl ?_ (by intro wz hSw;obtain⟨z0,z1,z2⟩:=hSw;go_simp;try with_reducible rfl);refine tk 1 rfl ?_ (by intro wz hSw;obtain⟨z0,z1,z2⟩:=hSw;go_simp;try with_reducible rfl);refine tk 2 rfl ?_ (by intro wz hSw;obtain⟨z0,z1,z2⟩:=hSw;go_simp;try with_reducible rfl);refine tk 3 rfl ?_ (by intro wz hSw;obtain⟨z0,z1,z2⟩:=hSw;go_simp;try with_reducible rfl);refine tk 4 rfl ?_ (by intro wz hSw;obtain⟨z0,z1,z2⟩:=hSw;go_simp;try with_reducible rfl);refine tk 5 rfl ?_ (by intro wz hSw;obtain⟨z0,z1,z2⟩:=hSw;go_simp;try with_reducible rfl);refine tk 6 rfl ?_ (by intro wz hSw;obtain⟨z0,z1,z2⟩:=hSw;go_simp;try with_reducible rfl);refine tk 7 rfl ?_ (by intro wz hSw;obtain⟨z0,z1,z2⟩:=hSw;go_simp;try with_reducible rfl);refine tk 8 rfl ?_ (by intro wz hSw;obtain⟨z0,z1,z2⟩:=hSw;go_simp;try with_reducible rfl);refine tk 9 rfl ?_ (by intro wz hSw;obtain⟨z0,z1,z2⟩:=hSw;go_simp;try with_reducible rfl);refine tk 10 rfl ?_ (by intro wz hSw;obtain⟨z0,z1,z2⟩:=hSw;go_simp;try with_reducible rfl);refine tk 11 rfl ?_ (by intro wz hSw;obtain⟨z0,z1,z2⟩:=hSw;go_simp;try with_reducible rfl);refine tk 12 rfl ?_ (by intro wz hSw;obtain⟨z0,z1,z2⟩:=hSw;go_simp;try with_reducible rfl);refine wDn ?_;clear hHeld;have hw3:=HW3.out;go_wp2;go_roundw
      case rel=>exact⟨k+1,n1,xc.seq+1,HLT.out,by go_num,rfl,rfl,HN2.out,HS2.out.symm,HBL.out.1⟩
      case measure=>have:=HLT.out;simp[RowKit.intOf];omega
     ·have HS2:Hid (startS act ((l.take (k+1)).map (·.c))=s0):=by show _=_;rw[HS1.out,if_neg (fun h=>hs h.2)]
      have hd:(xc.actor==act)=true:=by simpa using ha
      clear ha HS1;refine tk 0 rfl ?_ (by intro wz hSw;obtain⟨z0,z1,z2⟩:=hSw;go_simp;try with_reducible rfl);refine tk 1 rfl ?_ (by intro wz hSw;obtain⟨z0,z1,z2⟩:=hSw;go_simp;try with_reducible rfl);refine tk 2 rfl ?_ (by intro wz hSw;obtain⟨z0,z1,z2⟩:=hSw;go_simp;try with_reducible rfl);refine tk 3 rfl ?_ (by intro wz hSw;obtain⟨z0,z1,z2⟩:=hSw;go_simp;try with_reducible rfl);refine tk 4 rfl ?_ (by intro wz hSw;obtain⟨z0,z1,z2⟩:=hSw;go_simp;try with_reducible rfl);refine tk 5 rfl ?_ (by intro wz hSw;obtain⟨z0,z1,z2⟩:=hSw;go_simp;try with_reducible rfl);refine tk 6 rfl ?_ (by intro wz hSw;obtain⟨z0,z1,z2⟩:=hSw;go_simp;try with_reducible rfl);refine tk 7 rfl ?_ (by intro wz hSw;obtain⟨z0,z1,z2⟩:=hSw;go_simp;try with_reducible rfl);refine tk 8 rfl ?_ (by intro wz hSw;obtain⟨z0,z1,z2⟩:=hSw;go_simp;try with_reducible rfl);refine tk 9 rfl ?_ (by intro wz hSw;obtain⟨z0,z1,z2⟩:=hSw;go_simp;try with_reducible rfl);refine tk 10 rfl ?_ (by intro wz hSw;obtain⟨z0,z1,z2⟩:=hSw;go_simp;try with_reducible rfl);refine tk 11 rfl ?_ (by intro wz hSw;obtain⟨z0,z1,z2⟩:=hSw;go_simp;try with_reducible rfl);refine tk 12 rfl ?_ (by intro wz hSw;obtain⟨z0,z1,z2⟩:=hSw;go_simp;try with_reducible rfl);refine wDn ?_;clear hHeld;have hw3:=HW3.out;go_wp2;go_roundw
      case rel=>exact⟨k+1,n1,s0,HLT.out,by go_num,rfl,rfl,HN2.out,HS2.out.symm,HBL.out.1⟩
      case measure=>have:=HLT.out;simp[RowKit.intOf];omega
    ·have HS2:Hid (startS act ((l.take (k+1)).map (·.c))=s0):=by show _=_;rw[HS1.out,if_neg (fun h=>ha h.1)]
     have hd:(xc.actor==act)=false:=by simpa using ha
     clear ha HS1;refine tk 0 rfl ?_ (by intro wz hSw;obtain⟨z0,z1,z2⟩:=hSw;go_simp;try with_reducible rfl);refine tk 1 rfl ?_ (by intro wz hSw;obtain⟨z0,z1,z2⟩:=hSw;go_simp;try with_reducible rfl);refine tk 2 rfl ?_ (by intro wz hSw;obtain⟨z0,z1,z2⟩:=hSw;go_simp;try with_reducible rfl);refine tk 3 rfl ?_ (by intro wz hSw;obtain⟨z0,z1,z2⟩:=hSw;go_simp;try with_reducible rfl);refine tk 4 rfl ?_ (by intro wz hSw;obtain⟨z0,z1,z2⟩:=hSw;go_simp;try with_reducible rfl);refine tk 5 rfl ?_ (by intro wz hSw;obtain⟨z0,z1,z2⟩:=hSw;go_simp;try with_reducible rfl);refine tk 6 rfl ?_ (by intro wz hSw;obtain⟨z0,z1,z2⟩:=hSw;go_simp;try with_reducible rfl);refine tk 7 rfl ?_ (by intro wz hSw;obtain⟨z0,z1,z2⟩:=hSw;go_simp;try with_reducible rfl);refine sk 8 rfl ?_;refine sk 9 rfl ?_;refine sk 10 rfl ?_;refine sk 11 rfl ?_;refine tk 12 rfl ?_ (by intro wz hSw;obtain⟨z0,z1,z2⟩:=hSw;go_simp;try with_reducible rfl);refine wDn ?_;clear hHeld;have hw3:=HW3.out;go_wp2;go_roundw
     case rel=>exact⟨k+1,n1,s0,HLT.out,by go_num,rfl,rfl,HN2.out,HS2.out.symm,HBL.out.1⟩
     case measure=>have:=HLT.out;simp[RowKit.intOf];omega
  ·have g1:¬(k:Int)<ln:=by omega
   have hall:l.take k=l:=List.take_of_length_le (by have:=HLN.out.1;omega);have HEND:Hid (post (.returned (.tuple #[.int .i64 n0,.int .i64 s0])) wr):=by
    show post _ _;rw[HPO.out];have h1:=HR.out;rw[hall] at h1;exact⟨by rw[h1.1,h1.2.1],h1.2.2⟩
   clear hlt hk hall;go_wp2;exact HEND.out
end Go.Proofs.YtamhlgflbacjgaaGreat
