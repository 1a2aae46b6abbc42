/-
  What is proved: as each theorem says.
  Conditions: as each theorem says.
-/
import Derived.Test.YtamhlgflbacjgaaGreatF00
import Derived.Test.YtamhlgflbacjgaaGreatF12
import Derived.Lib.SliceRun
set_option maxRecDepth 100000
set_option maxHeartbeats 16000000
namespace Go.Proofs.YtamhlgflbacjgaaGreat
open Go.RowKit Go.Maps Go.Sort Go.Shelf Go.Lib
theorem run_clearR (w:World) (ty:TypeId) (b o c:Nat) (hc:∀j,j<2→(w.cell? ⟨b,o+j,none⟩).isSome=true) (hf:∀j,j<2→w.frozen? ⟨b,o+j,none⟩=false):
 (Builtin.clear_ #[30] ty #[.slice (some ⟨b,o,none⟩) 1 c]).run Tryz.prog w=.ok (.tuple #[]) (w.setCells b o [.int .i64 0,.int .i64 0]):=by
 have hzc:(Builtin.zeroCells (refV (0,0)).cells 1).toList=[.int .i64 0,.int .i64 0]:=by
  apply List.ext_getElem
  ·simp[Builtin.zeroCells,Value.cells]
  ·intro i h1 h2;simp[Builtin.zeroCells,Value.cells] at h1 ⊢;rcases i with _ | _ | i
   ·rfl
   ·rfl
   ·omega
 have hst:=run_storeCells_cells (P:=Tryz.prog) b o [.int .i64 0,.int .i64 0] 0 w (by simpa using hc) (by simpa using hf) (by intro v hv;simp at hv;rw[hv];rfl);simp only[Nat.add_zero] at hst;simp[Builtin.clear_,run_underlying Tryz.underlying30,hzc,hst]
theorem del_world {w:World} {base g cap:Nat} {l:List Pr} (h:RowPr 45 base (.slice (some ⟨g,0,none⟩) l.length cap) l w) (i n:Nat) (hi:i<l.length) (hn:l.length=n+1):
 RowPr 45 base (.slice (some ⟨g,0,none⟩) n cap) (l.eraseIdx i) (((w.drew.setCells g (0+i*2) (pcells (l.drop (i+1)))).setCells g (0+n*2) [.int .i64 0,.int .i64 0]))∧w.grownBy (((w.drew.setCells g (0+i*2) (pcells (l.drop (i+1)))).setCells g (0+n*2) [.int .i64 0,.int .i64 0])) (some g):=by
 rcases h.2 with⟨e,_⟩ | ⟨g',cap',cur,e,hbase,hb,h1,h2,h3,h4⟩
 ·cases e
 obtain⟨e1,_,e3⟩:=Value.slice.inj e;obtain rfl:g=g':=by have:=Option.some.inj e1;simpa using this
 subst e3;have hl:=pcells_len l;have hH:Holds id w g 0 (pcells l).toArray:=by
  have:=holdsR_of_block (ss:=l) hb h4;unfold HoldsK at this;rw[flat_pcells] at this;exact this
 have hd:=pcells_len (l.drop (i+1));rw[List.length_drop] at hd;have e4:w.drew=putRow id (Sort.ahead w 1) g 0 (pcells l).toArray:=(putRow_self id (Sort.ahead w 1) g 0 _ hH).symm;rw[e4,setCells_putRow _ _ _ _ _ _ (by simp;omega),setCells_putRow _ _ _ _ _ _ (by simp;omega)];obtain⟨F,hF⟩:∃F,F=setMany (setMany (pcells l).toArray (i*2) (pcells (l.drop (i+1)))) (n*2) [.int .i64 0,.int .i64 0]:=⟨_,rfl⟩
 rw[←hF];have hFs:F.size=l.length*2:=by rw[hF];simp[hl]
 have heap:(putRow id (Sort.ahead w 1) g 0 F).heap[g]?=some (.cells (putCells id 0 F cur) 45 (0,0)):=by
  have:=heap_sortedV (n:=1) (os:=#[]) F hb;simpa using this
 have hge:(l.eraseIdx i).length=n:=by rw[List.length_eraseIdx,if_pos hi];omega
 have hFt:F.toList.take (n*2)=pcells (l.eraseIdx i):=by
  apply List.ext_getElem?;intro t;rcases Nat.lt_or_ge t (n*2) with ht | ht
  ·rw[List.getElem?_take_of_lt ht,Array.getElem?_toList];have hFt1:F[t]! = if i*2≤t∧t<i*2+(pcells (l.drop (i+1))).length then (pcells (l.drop (i+1)))[t - i*2]! else (pcells l).toArray[t]! := by
    rw[hF,get_setMany _ _ _ _ (by simp[hl];omega),if_neg (by simp;omega),get_setMany _ _ _ _ (by simp[hl];omega)]
   rw[Array.getElem?_eq_getElem (by omega),←getElem!_pos F t (by omega),hFt1,List.eraseIdx_eq_take_drop_succ,pcells_append];have hti:=pcells_len (l.take i);rw[List.length_take,Nat.min_eq_left (by omega)] at hti;by_cases hc:i*2≤t
   ·rw[if_pos ⟨hc,by omega⟩,List.getElem?_append_right (by omega),hti,getElem!_pos _ _ (by omega),List.getElem?_eq_getElem (by omega)]
   ·rw[if_neg (by omega),List.getElem?_append_left (by omega)];have:(pcells l)[t]?=(pcells (l.take i))[t]?:=by
     conv=>lhs;rw[←List.take_append_drop i l,pcells_append]
     rw[List.getElem?_append_left (by omega)]
    rw[←this,getElem!_pos _ _ (by simp[hl];omega),List.getElem?_eq_getElem (by omega)];simp
  ·rw[List.getElem?_take_eq_none (by omega),List.getElem?_eq_none (by rw[pcells_len,hge];exact ht)]
 refine⟨⟨by rw[pcells_len],.inr ⟨g,cap,_,by rw[hge],hbase,heap,by rw[hge];omega,h2,by simp[putCells,h3],?_⟩⟩,?_⟩
 ·have:=take_putCellsV cur F.toList (by simp;omega);rw[hge,←hFt];have h9:(putCells id 0 F cur).toList.take F.toList.length=F.toList:=by simpa using this
  rw[←h9,List.take_take,Nat.min_eq_left (by simp;omega)]
 ·have:=grownBy_sortedV (w:=w) (g:=g) (n:=1) (os:=#[]) F;simpa using this
theorem wp_clear {w:World} {ops:Array Oper} {rest:List Oper} {o:Oper} {a:Act} {Q:Exit→Act→World→Prop} (hgd:o.guard=none) (s:Operand) (T:TypeId)
 (ho:o.op=.call {callee:=.builtin .clear,args:=#[s],argTypes:=#[T]}) (v r:Value) (w':World) (hs:a.eval s=v)
 (hrun:(Builtin.clear_ #[T] o.type #[v]).run Tryz.prog w=.ok r w') (h:wpList Tryz.prog ops Q rest (a.put o.dst r) w'):wpList Tryz.prog ops Q (o::rest) a w:=by
 refine wpList_plain hgd fun K hK=>?_;unfold Oper.wp;simp[execOp,ho,resolve,invoke,builtin,hs,hrun,Result.andThen];exact hK _ _ h
theorem addr_add (b o t:Nat):(⟨b,o,none⟩:Addr).add t=⟨b,o+t,none⟩:=by
 unfold Addr.add;split <;> simp_all
theorem delete_any (base g cap:Nat) (l:List Pr) (i:Nat) (w:World) (h:RowPr 45 base (.slice (some ⟨g,0,none⟩) l.length cap) l w) (hi:i<l.length) (hl:l.length≤1000000):
 Calls Tryz.prog 42 #[.slice (some ⟨g,0,none⟩) l.length cap,.int .i64 i,.int .i64 (i+1)] w fun e w'=>e=.returned (.slice (some ⟨g,0,none⟩) (l.length - 1) cap)∧RowPr 45 base (.slice (some ⟨g,0,none⟩) (l.length - 1) cap) (l.eraseIdx i) w'∧w.grownBy w' (some g):=by
 obtain⟨n,hn⟩:∃n,l.length=n+1:=⟨l.length - 1,by omega⟩
 have D:=del_world h i n hi hn;rw[hn] at h hi hl ⊢;rw[Nat.add_sub_cancel];obtain⟨i0,hi0,hz0,hz1,hz2⟩:=info_parts infoR;rcases h.2 with⟨e,_⟩ | ⟨g',cap',cur,e,hbase,hb,h1,h2,h3,h4⟩
 ·cases e
 obtain⟨e1,e2,e3⟩:=Value.slice.inj e;clear e2;obtain rfl:g=g':=by have:=Option.some.inj e1;simpa using this
 subst e3;have cellA:∀t,t<cap*2→(w.cell? ⟨g,t,none⟩).isSome=true:=fun t ht=>by simp[World.cell?,hb];omega
 have froz:∀t,w.frozen? ⟨g,t,none⟩=false:=fRz hb;have hd:=pcells_len (l.drop (i+1));rw[List.length_drop,hn] at hd;have HD:Hid _:=D;have hcap:n+1≤cap:=by rw[hn] at h1;exact h1
 obtain⟨A,hA,hsrc⟩:∃A:Addr,(if cap=i+1 then some (⟨g,0,none⟩:Addr) else some ⟨g,(i+1)*2,none⟩)=some A∧Hid (∀t u,(pcells (l.drop (i+1)))[t]?=some u→w.drew.cell? (A.add t)=some u):=by
  by_cases hca:cap=i+1
  ·refine⟨⟨g,0,none⟩,by simp[hca],fun t u hu=>?_⟩;have h0:(pcells (l.drop (i+1))).length=0:=by omega
   rw[List.length_eq_zero_iff.1 h0] at hu;simp at hu
  ·refine⟨⟨g,(i+1)*2,none⟩,by simp[hca],fun t u hu=>?_⟩;have ht:t<(n - i)*2:=by
    have:=(List.getElem?_eq_some_iff.1 hu).1;omega
   rw[addr_add];show w.cell? _=_;have h7:(cur.toList.take (l.length*2))[(i+1)*2+t]?=(pcells l)[(i+1)*2+t]?:=by rw[hn];rw[hn] at h4;rw[h4]
   rw[List.getElem?_take_of_lt (by rw[hn];omega)] at h7;have h8:(pcells l)[(i+1)*2+t]?=(pcells (l.drop (i+1)))[t]?:=by
    conv=>lhs;rw[←List.take_append_drop (i+1) l,pcells_append]
    rw[List.getElem?_append_right (by rw[pcells_len,List.length_take];omega),pcells_len,List.length_take,hn,Nat.min_eq_left (by omega)];congr 1;omega
   simp only[World.cell?,hb];simp only[Option.isSome_none,Bool.false_eq_true,if_false];rw[←Array.getElem?_toList,h7,h8];exact hu
 have s1:Hid ((pcells (l.drop (i+1))).length=(n - i)*2):=by show _=_;omega
 have s2:Hid (∀u∈pcells (l.drop (i+1)),u.oneCell'=true):=by
  intro u hu;unfold pcells at hu;obtain⟨x,_,hx⟩:=List.mem_flatMap.1 hu;simp at hx;rcases hx with rfl | rfl <;> rfl
 have s3:Hid (∀t,t<(pcells (l.drop (i+1))).length→(w.drew.cell? ⟨g,0+i*2+t,none⟩).isSome=true∧w.drew.frozen? ⟨g,0+i*2+t,none⟩=false):=fun t ht=>⟨cellA _ (by omega),froz _⟩
 obtain⟨W1,hW1⟩:∃W1,W1=w.drew.setCells g (0+i*2) (pcells (l.drop (i+1))):=⟨_,rfl⟩
 have hclr:Hid (∀t,t<2→(W1.cell? ⟨g,n*2+t,none⟩).isSome=true∧W1.frozen? ⟨g,n*2+t,none⟩=false):=by
  have hH:Holds id w g 0 (pcells l).toArray:=by
   have:=holdsR_of_block (ss:=l) hb (by rw[hn];rw[hn] at h4;exact h4);unfold HoldsK at this;rw[flat_pcells] at this;exact this
  have hll:=pcells_len l;have e4:w.drew=putRow id (Sort.ahead w 1) g 0 (pcells l).toArray:=(putRow_self id (Sort.ahead w 1) g 0 _ hH).symm;rw[hW1,e4,setCells_putRow _ _ _ _ _ _ (by simp;omega)];have hp:=heap_sortedV (n:=1) (os:=#[]) (setMany (pcells l).toArray (i*2) (pcells (l.drop (i+1)))) hb;simp only[grow_empty] at hp;intro t ht;refine⟨?_,fRz hp _⟩;simp[World.cell?,hp,putCells];omega
 have HW:=hY2 hclr.out hW1;have g1:(i:Int)<n+1:=by omega
 have g2:(n:Int)<1000000:=by omega
 have g3:(n:Int)+1≤cap:=by omega
 have g4:(i:Int)≤n:=by omega
 have HI:Hid (i≤n):=by show _≤_;omega
 obtain⟨j,hj⟩:∃j:Nat,j=i+1:=⟨_,rfl⟩
 have q1:((i:Int)==(j:Int))=false:=by simp;omega
 have q2:(i:Int)≤j:=by omega
 have q3:(j:Int)≤n+1:=by omega
 have HJ:Hid (j=i+1):=hj;rw[show((i:Int)+1)=(j:Int) from by omega];clear hj;clear D hb h1 h3 h4 hd cellA froz hclr hW1 e e1 h hbase hn hl;have HH:=hY5 hi0 hz1 hA hcap h2;clear hi0 hz0 hz1 hz2 hA hcap h2 hi;go_enter Tryz.func42,Tryz.ntmps42
 go_upto_region 5 with fail
 obtain⟨hi0,hz1,hA,hcap,h2⟩:=HH.out;clear HH;rw[←HJ.out] at hA;have HH:=hY4 hi0 hz1 hcap h2;have hlen:Hid ((pcells (l.drop (i+1))).length=(n+1 - j)*2):=by have:=s1.out;have:=HJ.out;have:=HI.out;show _=_;omega
 have g5:(i:Int)≤cap:=by have:=HI.out;omega
 have g6:(j:Int)≤cap:=by omega
 clear hi0 hz1 hcap h2;go_region_law (refine step_append_room rfl (.tmp 22) (.tmp 25) 30 rfl 45 i0 2 Tryz.underlying30 HH.out.1 HH.out.2.1 g 0 i cap (by simp[Act.eval,Act.put]) A (n+1 - j) (cap - j) (pcells (l.drop (i+1))) (by simp[Act.eval,Act.put]) hlen.out hsrc.out s2.out (by have:=HI.out;have:=HJ.out;have:=HH.out.2.2.1;omega) s3.out ?_);have e7:i+(n+1 - j)=n:=by have:=HI.out;have:=HJ.out;omega
 rw[e7];obtain⟨hclr,hW1⟩:=HW.out;rw[Nat.zero_add] at hW1;rw[←hW1];have hrun:=run_clearR W1 0 g (n*2) (cap - n) (fun t ht=>(hclr t ht).1) (fun t ht=>(hclr t ht).2);have HW2:Hid _:=hW1;have e8:n+1 - n=1:=by omega
 have g7:(n:Int)≤cap:=by omega
 have g8:¬cap=n:=by omega
 have hD:=HD.out;rw[Nat.zero_add,←hW1,Nat.zero_add] at hD;have HD2:Hid _:=hD;clear e7 hclr hW1 hD HD HW hA hsrc s1 s2 s3 hlen g1 g4 q1 q2 q3 g5 g6;go_wp2_with (first | (at_builtin;refine wp_clear rfl _ 30 rfl _ _ _ rfl hrun ?_));go_ret;exact⟨rfl,HD2.out⟩
end Go.Proofs.YtamhlgflbacjgaaGreat
namespace Go.Proofs.YtamhlgflbacjgaaGreat
open Go.RowKit Go.Maps
theorem untold_any (m t:Nat) (D:List Pr) (r:Pr) (w:World) (M:MapL w m (D.map fun r=>(r,(.int .i64 1:Value)))) (ht:w.heap[t]?=some (.cells #[.map (some m)] 86)) (hr:R64 r):
 Calls Tryz.prog 37 #[refV r,.pointer (some ⟨t,0,none⟩)] w fun e w'=>e=.returned (.bool (!decide (r∈D)))∧Below w.heap.size w w':=by
 have b0:=bAl w (.cells #[.int .i64 r.1,.int .i64 r.2] 45);have hl:=(M.below b0).look1 Tryz.underlying86 (zeroI _) hr;rw[lk_ones] at hl;have c0:w.cell? ⟨t,0,none⟩=some (.map (some m)):=cLo ht 0;have z0:=lt_of_heap ht;have HB:Hid _:=b0;clear b0 M ht;by_cases hm:r∈D
 ·rw[if_pos hm] at hl;simp only[Option.getD_some] at hl;have HM:Hid (decide (r∈D)=true):=by show _=_;simp[hm]
  rw[HM.out];clear hm;go_enter Tryz.func37,Tryz.ntmps37
  go_wp2;go_ret;exact⟨rfl,HB.out⟩
 ·rw[if_neg hm] at hl;simp only[Option.getD_none] at hl;have HM:Hid (decide (r∈D)=false):=by show _=_;simp[hm]
  rw[HM.out];clear hm;go_enter Tryz.func37,Tryz.ntmps37
  go_wp2;go_ret;exact⟨rfl,HB.out⟩
def nextB (EH:List CE) (D:List Pr) (r:Pr):Bool:= !((depE EH r).any fun d=> !decide (d∈D))
structure AllIn (w:World) (g h q x t m f:Nat) (EH EW:List CE) (D:List Pr):Prop where
 bk:Bk w g h q EH EW
 bx:w.heap[x]?=some (.cells #[.pointer (some ⟨g,0,none⟩)] 25)
 tb:w.heap[t]?=some (.cells #[.map (some m)] 86)
 mp:MapL w m (D.map fun r=>(r,(.int .i64 1:Value)))
 fb:w.heap[f]?=some (.cells #[.func (Fn.func 37) #[] #[.pointer (some ⟨t,0,none⟩)]] 87)
theorem AllIn.below {w w':World} {g h q x t m f:Nat} {EH EW:List CE} {D:List Pr} (A:AllIn w g h q x t m f EH EW D) (b:Below w.heap.size w w'):AllIn w' g h q x t m f EH EW D:=
 ⟨A.bk.below b,heap_below A.bx b lRf,heap_below A.tb b lRf,A.mp.below b,heap_below A.fb b lRf⟩
theorem keepA {W W':World} {g h x z f t:Nat} {r:Pr} {L:List (Pr×Value)} (hh:W.cell? ⟨x,0,none⟩=some (.pointer (some ⟨g,0,none⟩))∧W.cell? ⟨g,0,none⟩=some (.map (some h))∧W.cell? ⟨z,0,none⟩=some (.int .i64 r.1)∧W.cell? ⟨z,1,none⟩=some (.int .i64 r.2)∧W.cell? ⟨f,0,none⟩=some (.func (Fn.func 37) #[] #[.pointer (some ⟨t,0,none⟩)])∧MapL W h L) (hb:Below W.heap.size W W'):W'.cell? ⟨x,0,none⟩=some (.pointer (some ⟨g,0,none⟩))∧W'.cell? ⟨g,0,none⟩=some (.map (some h))∧W'.cell? ⟨z,0,none⟩=some (.int .i64 r.1)∧W'.cell? ⟨z,1,none⟩=some (.int .i64 r.2)∧W'.cell? ⟨f,0,none⟩=some (.func (Fn.func 37) #[] #[.pointer (some ⟨t,0,none⟩)])∧MapL W' h L:=by
 obtain⟨h0,h1,h2,h3,h4,h5⟩:=hh;exact⟨(hb.cell (cell_in h0)).trans h0,(hb.cell (cell_in h1)).trans h1,(hb.cell (cell_in h2)).trans h2,(hb.cell (cell_in h3)).trans h3,(hb.cell (cell_in h4)).trans h4,h5.below hb⟩
theorem mayBe_any (w:World) (g h q x t m f:Nat) (EH EW:List CE) (D:List Pr) (r:Pr) (A:AllIn w g h q x t m f EH EW D) (hr:r∈EH.map (·.1.ref)):
 Calls Tryz.prog 38 #[refV r,.pointer (some ⟨x,0,none⟩),.pointer (some ⟨f,0,none⟩)] w fun e w'=>e=.returned (.bool (nextB EH D r))∧Below w.heap.size w w':=by
 obtain⟨p,hp,hpr,hpv,hpd⟩:=ent_of hr;have h64:R64 r:=by
  rw[←ents_keys] at hr;obtain⟨y,hy,rfl⟩:=List.mem_map.1 hr;exact A.bk.book.has.r64 y hy
 obtain⟨ud,uo,lo,e1,_,hdp,_⟩:=(A.bk.chgs p (List.mem_append_left _ hp)).1;have hcv:=(A.bk.chgs p (List.mem_append_left _ hp)).1.cv;obtain⟨ca,cs,ct,da,dn,dc,oa,on,oc,hpe⟩:=hcv;rw[hpe] at e1;simp at e1;obtain⟨q1,q2,q3,hud,q5⟩:=e1;subst hud;clear q1 q2 q3 q5;have b0:=bAl w (.cells #[.int .i64 r.1,.int .i64 r.2] 45);have n0:=heap_alloc_new w (.cells #[.int .i64 r.1,.int .i64 r.2] 45);have A0:=A.below b0;have hent:(lk (ents EH) r).getD zC=.agg #[.int .i64 ca,.int .i64 cs,.int .i64 ct,.slice da dn dc,.slice oa on oc]:=by
  have:entV (ents EH) r=p.2:=hpv;unfold entV at this;rw[this,hpe]
 have eg:∀args w,(callFunc 37 args).run Tryz.prog w=.ok (.enter 37 args) w:=enters_of Tryz.func37 (by kernel_rfl) rfl;obtain⟨nb,hnb⟩:=gNz ((p.1.deps.any fun d=> !decide (d∈D)):Bool);have e2:nextB EH D r= !nb:=by unfold nextB;rw[hpd,hnb]
 rw[e2];have HA:=hY5 A0 n0 b0 (hdp.below b0) hnb;have HE:Hid _:=hent;clear A A0 n0 b0 hdp hnb e2 hp hpr hpv hpd hpe hr hent;go_enter Tryz.func38,Tryz.ntmps38
 go_wp2;obtain⟨A0,n0,b0,hdp,hnb⟩:=HA.out;clear HA;generalize w.alloc (.cells #[.int .i64 r.1,.int .i64 r.2] 45)=Y at *;have hent:=HE.out;have k0:Y.cell? ⟨x,0,none⟩=some (.pointer (some ⟨g,0,none⟩)):=cLo A0.bx 0;have k1:Y.cell? ⟨g,0,none⟩=some (.map (some h)):=cLo A0.bk.book.box 0;obtain⟨k2,k3,-⟩:=cLs n0;have k4:Y.cell? ⟨f,0,none⟩=some (.func (Fn.func 37) #[] #[.pointer (some ⟨t,0,none⟩)]):=cLo A0.fb 0;have mh:=A0.bk.book.has;have AD:=A0.below (drew_of (Below.refl Y.heap.size Y));have hdr:∀d∈p.1.deps,R64 d:=by obtain⟨_,_,_,_,_,hr,_⟩:=hdp;exact hr
 have EC:=contains_any 37 eg (.pointer (some ⟨t,0,none⟩)) (fun d=> !decide (d∈D)) _ p.1.deps Y.drew (hdp.below (drew_of (Below.refl Y.heap.size Y))) (fun d hd W hb=>untold_any m t D d W (AD.below hb).mp (AD.below hb).tb (hdr d hd));rw[hnb] at EC;have HB:Hid (Below w.heap.size w Y):=b0;clear A0 n0 b0 hdp hnb AD hdr;refine rNh (fun W=>W.cell? ⟨x,0,none⟩=some (.pointer (some ⟨g,0,none⟩))∧W.cell? ⟨g,0,none⟩=some (.map (some h))∧W.cell? ⟨w.heap.size,0,none⟩=some (.int .i64 r.1)∧W.cell? ⟨w.heap.size,1,none⟩=some (.int .i64 r.2)∧W.cell? ⟨f,0,none⟩=some (.func (Fn.func 37) #[] #[.pointer (some ⟨t,0,none⟩)])∧MapL W h (ents EH)) (⟨k0,k1,k2,k3,k4,⟨mh.own,mh.nd,mh.r64⟩⟩) (fun hHeld=>?_);refine tk 0 rfl ?_;refine tk 1 rfl ?_;refine tk 2 rfl ?_;refine tk 3 rfl ?_;refine tk 4 rfl ?_;refine wpAnyH_take (i:=5) (oi:={dst:=some 10,op:=Op.lookup 75 (Operand.tmp 8) (Operand.tmp 9) false,type:=33,pos := "dag.go:54",after:=#[aD 3,aD 4],guard:=none}) (v:=.agg #[.int .i64 ca,.int .i64 cs,.int .i64 ct,.slice da dn dc,.slice oa on oc]) rfl (by kernel_rfl) (by kernel_rfl) (by kernel_rfl) (fun _ _ _ h=>h) (Or.inl ⟨by rfl,?_⟩) (by assumption) ?_
 ·intro wz hSw;have hl:=hSw.2.2.2.2.2.look1 Tryz.underlying75 (zeroC _) h64;rw[hent] at hl;simp[Act.eval,hl,go_sem]
 try simp only[Act.put,nm]
 refine wpAnyH_take (i:=6) (oi:={dst:=some 11,op:=Op.field 33 (Operand.tmp 10) 3,type:=30,pos := "dag.go:54",after:=#[aD 5],guard:=none}) (v:=.slice da dn dc) rfl (by kernel_rfl) (by kernel_rfl) (by kernel_rfl) (fun _ _ _ h=>h) (Or.inl ⟨by rfl,?_⟩) (by assumption) ?_
 ·intro wz hSw
  kernel_rfl
 try simp only[Act.put,nm]
 refine tk 7 rfl ?_;refine wpAnyH_ready (rs:=[8]) (by kernel_rfl) (by simp) (AllReadyH.cons (o:={dst:=some 13,op:=Op.call {callee:=Callee.value (Operand.func 39),args:=#[Operand.tmp 11,Operand.tmp 12],argTypes:=#[30,87]},type:=4,pos := "dag.go:54",after:=#[aD 6,aD 7],guard:=none}) rfl (fun K hK=>?_) AllReadyH.nil);go_simp;go_at_call 39;refine Calls.mono EC ?_;rintro e w8 ⟨rfl,hb8⟩;go_wp2_with fail;refine hK.out _ _ (keepA (by assumption) hb8) (fun hHeld8=>?_);clear hK K;try simp only[Act.put,nm]
 refine tk 9 rfl ?_;refine tk 10 rfl ?_;refine wDn ?_;have HZ:Hid (Below w.heap.size w w8):=(drew_of HB.out).trans (hb8.mono HB.out.size);clear hHeld hHeld8 hb8 EC k0 k1 k2 k3 k4 mh hent;go_wp2;go_ret;exact⟨rfl,HZ.out⟩
theorem idxP_true {p:Pr→Bool} {l:List Pr} {k:Nat} (h:idxP p l=k):∃hk:k<l.length,p l[k]=true:=by
 induction l generalizing k with
 | nil=>simp[idxP] at h
 | cons x l ih=>
  simp only[idxP] at h;split at h
  ·rename_i hx;have:k=0:=by omega
   subst this;exact⟨by simp,by simpa using hx⟩
  ·split at h
   ·omega
   ·cases k with
    | zero=>have:=idxP_range p l;omega
    | succ k=>
     obtain⟨hk,hp⟩:=ih (k:=k) (by omega);exact⟨by simpa using hk,by simpa using hp⟩
theorem nextB_iff {EH:List CE} {D:List Pr} {r:Pr}:nextB EH D r=true↔∀d∈depE EH r,d∈D:=by
 unfold nextB;rw[Bool.not_eq_true',List.any_eq_false];constructor
 ·intro h d hd;have:=h d hd;simpa using this
 ·intro h d hd;simpa using h d hd
theorem perm_erase (l:List Pr) (i:Nat) (hi:i<l.length):(l[i]::l.eraseIdx i).Perm l:=by
 induction l generalizing i with
 | nil=>simp at hi
 | cons x l ih=>
  cases i with
  | zero=>simp
  | succ i=>
   simp only[List.getElem_cons_succ,List.eraseIdx_cons_succ];exact(List.Perm.swap x _ _).trans ((ih i (by simpa using hi)).cons x)
def ordStep (EH:List CE) (s:List Pr×List Pr):List Pr×List Pr:=(s.1++[s.2.getD (idxP (nextB EH s.1) s.2).toNat (0,0)],s.2.eraseIdx (idxP (nextB EH s.1) s.2).toNat)
def ordN (EH:List CE) (ts:List Pr):Nat→List Pr×List Pr
 | 0=>([],ts)
 | k+1=>ordStep EH (ordN EH ts k)
structure OrdOk (EH:List CE) (D rest:List Pr):Prop where
 perm:(D++rest).Perm (EH.map (·.1.ref))
 dep:∀pre r post,D=pre++r::post→∀d∈depE EH r,d∈pre
theorem OrdOk.next {EH:List CE} {D rest:List Pr} (h:OrdOk EH D rest) (hc:Clo EH) (hr:rest≠[]):
 ∃i:Nat,idxP (nextB EH D) rest=i∧∃hi:i<rest.length,nextB EH D rest[i]=true:=by
 have hsome:∃r∈rest,nextB EH D r=true:=by
  obtain⟨x,hx⟩:∃x,x∈rest:=by cases rest with | nil=>exact absurd rfl hr | cons x _=>exact⟨x,by simp⟩
  have hxk:x∈EH.map (·.1.ref):=h.perm.mem_iff.1 (List.mem_append_right _ hx);obtain⟨p0,hp0,e0⟩:=List.mem_map.1 hxk;cases hf:EH.find? fun p=>decide (p.1.ref∈rest) with
  | none=>
   have:=List.find?_eq_none.1 hf p0 hp0;simp[e0,hx] at this
  | some p=>
   obtain⟨hp,pre,post,he,hpre⟩:=List.find?_eq_some_iff_append.1 hf;have hpr:p.1.ref∈rest:=by simpa using hp
   refine⟨p.1.ref,hpr,?_⟩;have hd:depE EH p.1.ref=p.1.deps:=by
    unfold depE;have:(EH.find? fun y=>y.1.ref==p.1.ref)=some p:=by
     rw[List.find?_eq_some_iff_append];refine⟨by simp,pre,post,he,fun y hy=>?_⟩;have hy1:=hpre y hy;simp at hy1 ⊢;exact fun e=>hy1 (by rw[e];exact hpr)
    rw[this];rfl
   rw[nextB_iff,hd];intro d hdd;have h1:=hc pre p post he d hdd;obtain⟨y,hy,ey⟩:=List.mem_map.1 h1;have h2:d∉rest:=fun e=>by have:=hpre y hy;simp[ey,e] at this
   have h3:d∈EH.map (·.1.ref):=by rw[he,List.map_append];exact List.mem_append_left _ h1
   rcases List.mem_append.1 (h.perm.mem_iff.2 h3) with e | e
   ·exact e
   ·exact absurd e h2
 obtain⟨r,hr1,hr2⟩:=hsome;have h1:=idxP_range (nextB EH D) rest;have h2:idxP (nextB EH D) rest≠-1:=fun e=>by rw[idxP_none.1 e r hr1] at hr2;cases hr2
 refine⟨(idxP (nextB EH D) rest).toNat,by omega,idxP_true (by omega)⟩
theorem OrdOk.step {EH:List CE} {D rest:List Pr} (h:OrdOk EH D rest) (i:Nat) (hi:i<rest.length) (hb:nextB EH D rest[i]=true):OrdOk EH (D++[rest[i]]) (rest.eraseIdx i):=by
 refine⟨?_,?_⟩
 ·rw[List.append_assoc];exact(List.Perm.append_left D (perm_erase rest i hi)).trans h.perm
 ·intro pre r post he d hd;rcases List.append_eq_append_iff.1 he with⟨a,h1,h2⟩ | ⟨a,h1,h2⟩
  ·cases a with
   | nil=>
    simp at h1 h2;obtain⟨rfl,_⟩:=h2;subst h1;exact nextB_iff.1 hb d hd
   | cons y a=>simp at h2
  ·cases a with
   | nil=>
    simp at h1 h2;obtain⟨rfl,_⟩:=h2;subst h1;exact nextB_iff.1 hb d hd
   | cons y a=>
    simp at h2;obtain⟨rfl,_⟩:=h2;exact h.dep pre r a h1 d hd
end Go.Proofs.YtamhlgflbacjgaaGreat
