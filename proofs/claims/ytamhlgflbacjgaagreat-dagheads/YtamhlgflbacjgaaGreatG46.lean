/-
  What is proved: as each theorem says.
  Conditions: as each theorem says.
-/
import Derived.Test.YtamhlgflbacjgaaGreatG00
import Derived.Test.YtamhlgflbacjgaaGreatG45
import Derived.Test.YtamhlgflbacjgaaGreatG23
import Derived.Laws.EntriesVeiled
set_option maxRecDepth 100000
set_option maxHeartbeats 16000000
namespace Go.Proofs.YtamhlgflbacjgaaGreat
open Go.RowKit Go.Maps
structure AllSt (w:World) (B1:Nat) (g h q:Nat) (EH EW:List CE) (ts:List Pr) (k:Nat) (D rest:List Pr) (es:List CE) (lv rv:Value) (wr:World):Prop where
 A:AllIn wr g h q w.heap.size (w.heap.size+2) (w.heap.size+1) (w.heap.size+3) EH EW D
 ok:OrdOk EH D rest
 ord:ordN EH ts k=(D,rest)
 rr:RowPr 45 (w.heap.size+4) rv rest wr
 rl:RowC (w.heap.size+4) lv (es.map (·.2)) wr
 hi:∀p∈es,IsChgH B1 wr p.2 p.1∧chk p.1=0∧∃u,(p.1,u)∈EH
 refs:es.map (·.1.ref)=D
 rb:∀b,rv.ownBlock=some b→b<B1
 bel:Below w.heap.size w wr
 z:B1≤wr.heap.size
 z1:w.heap.size+4≤B1
theorem AllSt.below {w:World} {B1 g h q:Nat} {EH EW:List CE} {ts:List Pr} {k:Nat} {D rest:List Pr} {es:List CE} {lv rv:Value} {wr V:World} (S:AllSt w B1 g h q EH EW ts k D rest es lv rv wr) (b:Below wr.heap.size wr V):AllSt w B1 g h q EH EW ts k D rest es lv rv V:=
 ⟨S.A.below b,S.ok,S.ord,own_below S.rr b lRf,own_below S.rl b lRf,fun p hp=>⟨(S.hi p hp).1.below b,(S.hi p hp).2⟩,S.refs,S.rb,S.bel.trans (b.mono S.bel.size),Nat.le_trans S.z b.size,S.z1⟩
theorem keepG {w W W':World} {g h gr i:Nat} {r:Pr} {L:List (Pr×Value)} {row:Option Nat} (hh:W.cell? ⟨w.heap.size,0,none⟩=some (.pointer (some ⟨g,0,none⟩))∧W.cell? ⟨g,0,none⟩=some (.map (some h))∧W.cell? ⟨gr,i*2,none⟩=some (.int .i64 r.1)∧W.cell? ⟨gr,i*2+1,none⟩=some (.int .i64 r.2)∧MapL W h L) (hg:W.grownBy W' row) (n0:some w.heap.size≠row) (n1:some g≠row) (n2:some gr≠row) (n3:some h≠row):W'.cell? ⟨w.heap.size,0,none⟩=some (.pointer (some ⟨g,0,none⟩))∧W'.cell? ⟨g,0,none⟩=some (.map (some h))∧W'.cell? ⟨gr,i*2,none⟩=some (.int .i64 r.1)∧W'.cell? ⟨gr,i*2+1,none⟩=some (.int .i64 r.2)∧MapL W' h L:=by
 obtain⟨h0,h1,h2,h3,h4⟩:=hh;have kc:∀{b o:Nat} {v:Value},W.cell? ⟨b,o,none⟩=some v→some b≠row→W'.cell? ⟨b,o,none⟩=some v:=fun {b o v} hc hn=>by
  have:=hg.block b (cell_in hc) hn;unfold World.cell? at hc ⊢;rw[this];exact hc
 exact⟨kc h0 n0,kc h1 n1,kc h2 n2,kc h3 n2,h4.grown hg n3⟩
def Ones (L:List (Pr×Value)):Prop:=∀x∈L,x.2=.int .i64 1
theorem lk_Ones {L:List (Pr×Value)} (h:Ones L) (r:Pr):lk L r=if r∈L.map (·.1) then some (.int .i64 1) else none:=by
 cases hk:lk L r with
 | none=>rw[if_neg (lk_none.1 hk)]
 | some v=>
  have h1:=lk_mem hk;rw[if_pos (List.mem_map.2 ⟨_,h1,rfl⟩),←h _ h1]
theorem hung_any (m t:Nat) (L:List (Pr×Value)) (r:Pr) (w:World) (M:MapL w m L) (hO:Ones L) (ht:w.heap[t]?=some (.cells #[.map (some m)] 86)) (hr:R64 r):
 Calls Tryz.prog 45 #[refV r,.pointer (some ⟨t,0,none⟩)] w fun e w'=>e=.returned (.bool (decide (r∈L.map (·.1))))∧Below w.heap.size w w':=by
 have b0:=bAl w (.cells #[.int .i64 r.1,.int .i64 r.2] 45);have hl:=(M.below b0).look1 Tryz.underlying86 (zeroI _) hr;rw[lk_Ones hO] at hl;have c0:w.cell? ⟨t,0,none⟩=some (.map (some m)):=cLo ht 0;have z0:=lt_of_heap ht;have HB:Hid _:=b0;clear b0 M ht hO;by_cases hm:r∈L.map (·.1)
 ·rw[if_pos hm] at hl;simp only[Option.getD_some] at hl;have HM:Hid (decide (r∈L.map (·.1))=true):=decide_eq_true hm;rw[HM.out];clear hm;go_enter Tryz.func45,Tryz.ntmps45
  go_wp2;go_ret;exact⟨rfl,HB.out⟩
 ·rw[if_neg hm] at hl;simp only[Option.getD_none] at hl;have HM:Hid (decide (r∈L.map (·.1))=false):=decide_eq_false hm;rw[HM.out];clear hm;go_enter Tryz.func45,Tryz.ntmps45
  go_wp2;go_ret;exact⟨rfl,HB.out⟩
end Go.Proofs.YtamhlgflbacjgaaGreat
namespace Go.Proofs.YtamhlgflbacjgaaGreat
open Go.RowKit Go.Maps Go.Sort Go.Shelf Go.Lib
theorem run_clearRn (w:World) (ty:TypeId) (b o n c:Nat) (hn:0<n) (hc:∀j,j<n*2→(w.cell? ⟨b,o+j,none⟩).isSome=true) (hf:∀j,j<n*2→w.frozen? ⟨b,o+j,none⟩=false):
 (Builtin.clear_ #[30] ty #[.slice (some ⟨b,o,none⟩) n c]).run Tryz.prog w=.ok (.tuple #[]) (w.setCells b o (List.replicate (n*2) (.int .i64 0))):=by
 have hzc:(Builtin.zeroCells (refV (0,0)).cells n).toList=List.replicate (n*2) (.int .i64 0):=by
  apply List.ext_getElem
  ·simp[Builtin.zeroCells,Value.cells]
  ·intro i h1 h2;simp[Builtin.zeroCells,Value.cells] at h1 ⊢;rcases Nat.mod_two_eq_zero_or_one i with e | e <;> simp[e]
 have hst:=run_storeCells_cells (P:=Tryz.prog) b o (List.replicate (n*2) (.int .i64 0)) 0 w (by simpa using hc) (by simpa using hf) (by intro v hv;rw[List.eq_of_mem_replicate hv];rfl);simp only[Nat.add_zero] at hst;obtain⟨m,rfl⟩:∃m,n=m+1:=⟨n - 1,by omega⟩
 simp[Builtin.clear_,run_underlying Tryz.underlying30,hzc,hst]
theorem pcells_set (l:List Pr) (k:Nat) (hk:k<l.length) (q:Pr):pcells (l.set k q)=((pcells l).set (k*2) (.int .i64 q.1)).set (k*2+1) (.int .i64 q.2):=by
 induction l generalizing k with
 | nil=>simp at hk
 | cons x l ih=>
  cases k with
  | zero=>rfl
  | succ k=>
   have e:∀(y:Pr) (m:List Pr),pcells (y::m)=.int .i64 y.1::.int .i64 y.2::pcells m:=fun _ _=>rfl;rw[List.set_cons_succ,e,e,ih k (by simpa using hk)];rw[show(k+1)*2=k*2+1+1 by omega,show k*2+1+1+1=k*2+1+1+1 from rfl];simp only[List.set_cons_succ]
theorem rowPr_set {T:TypeId} {B g cap n:Nat} {w:World} {l:List Pr} (h:RowPr T B (.slice (some ⟨g,0,none⟩) n cap) l w) (k:Nat) (hk:k<l.length) (q:Pr):
 RowPr T B (.slice (some ⟨g,0,none⟩) n cap) (l.set k q) ((w.setCell ⟨g,k*2,none⟩ (.int .i64 q.1)).setCell ⟨g,k*2+1,none⟩ (.int .i64 q.2)):=by
 unfold RowPr;rw[List.length_set,pcells_set l k hk q];refine⟨by rw[List.length_set,List.length_set];exact h.1,?_⟩;rcases h.2 with⟨e,_⟩ | ⟨g',cap',cur,e,hg,hh,hc,hm,hz,ht⟩
 ·cases e
 ·have e1:=Value.slice.inj e;have e2:g=g':=by have:=Option.some.inj e1.1;simpa using this
  subst e2;have e3:=e1.2.2;subst e3;refine Or.inr ⟨g,cap,(cur.setIfInBounds (k*2) (.int .i64 q.1)).setIfInBounds (k*2+1) (.int .i64 q.2),e,hg,set_at (set_at hh _ _) _ _,hc,hm,by simpa using hz,?_⟩;rw[Array.toList_setIfInBounds,Array.toList_setIfInBounds,List.take_set,List.take_set,ht]
theorem rowPr_cut {T:TypeId} {B g cap n:Nat} {w:World} {l f:List Pr} (h:RowPr T B (.slice (some ⟨g,0,none⟩) n cap) l w) (m:Nat) (hm:l=f++l.drop f.length) (hf:f.length+m=l.length):
 RowPr T B (.slice (some ⟨g,0,none⟩) f.length cap) f (w.setCells g (f.length*2) (List.replicate (m*2) (.int .i64 0)))∧w.grownBy (w.setCells g (f.length*2) (List.replicate (m*2) (.int .i64 0))) (some g):=by
 rcases h.2 with⟨e,_⟩ | ⟨g',cap',cur,e,hbase,hb,h1,h2,h3,h4⟩
 ·cases e
 obtain⟨e1,_,e3⟩:=Value.slice.inj e;obtain rfl:g=g':=by have:=Option.some.inj e1;simpa using this
 subst e3;have hl:=pcells_len l;have hH:Holds id w g 0 (pcells l).toArray:=by
  have:=holdsR_of_block (ss:=l) hb h4;unfold HoldsK at this;rw[flat_pcells] at this;exact this
 have e4:w=putRow id w g 0 (pcells l).toArray:=(putRow_self id w g 0 _ hH).symm;have e5:w.setCells g (f.length*2) (List.replicate (m*2) (.int .i64 0))=putRow id w g 0 (setMany (pcells l).toArray (f.length*2) (List.replicate (m*2) (.int .i64 0))):=by
  conv=>lhs;rw[e4]
  have:=setCells_putRow w g 0 (List.replicate (m*2) (.int .i64 0)) (f.length*2) (pcells l).toArray (by simp;omega);rw[Nat.zero_add] at this;exact this
 rw[e5];obtain⟨F,hF⟩:∃F,F=setMany (pcells l).toArray (f.length*2) (List.replicate (m*2) (.int .i64 0)):=⟨_,rfl⟩
 rw[←hF];have hFs:F.size=l.length*2:=by rw[hF];simp[hl]
 have hg:g<w.heap.size:=(Array.getElem?_eq_some_iff.1 hb).1;have heap:(putRow id w g 0 F).heap[g]?=some (.cells (putCells id 0 F cur) T (0,0)):=by
  simp[putRow,mapBlock,Array.getElem?_modify,hb,onCells]
 have hFt:F.toList.take (f.length*2)=pcells f:=by
  apply List.ext_getElem?;intro t;rcases Nat.lt_or_ge t (f.length*2) with ht | ht
  ·rw[List.getElem?_take_of_lt ht,Array.getElem?_toList,Array.getElem?_eq_getElem (by omega),←getElem!_pos F t (by omega),hF,get_setMany _ _ _ _ (by simp[hl];omega),if_neg (by omega)];have:(pcells l)[t]?=(pcells f)[t]?:=by
    conv=>lhs;rw[hm,pcells_append]
    rw[List.getElem?_append_left (by rw[pcells_len];exact ht)]
   rw[←this,getElem!_pos _ _ (by simp[hl];omega),List.getElem?_eq_getElem (by omega)];simp
  ·rw[List.getElem?_take_eq_none (by omega),List.getElem?_eq_none (by rw[pcells_len];exact ht)]
 refine⟨⟨by rw[pcells_len],.inr ⟨g,cap,_,rfl,hbase,heap,by omega,h2,by simp[putCells,h3],?_⟩⟩,⟨rfl,rfl,rfl,by simp[putRow,mapBlock],fun k hk hne=>?_⟩⟩
 ·have:=take_putCellsV cur F.toList (by simp;omega);have h9:(putCells id 0 F cur).toList.take F.toList.length=F.toList:=by simpa using this
  rw[←hFt,←h9,List.take_take,Nat.min_eq_left (by simp;omega)]
 ·have:g≠k:=fun e=>hne (by rw[e]);simp[putRow,mapBlock,Array.getElem?_modify,this]
def PredK (f:FuncId) (lb:Array Value) (p:Pr→Bool) (l:List Pr) (g:Nat) (w:World):Prop:=
 ∀r∈l,∀W,Kp [g] w W→Calls Tryz.prog f (#[refV r]++lb) W fun e W'=>e=.returned (.bool (p r))∧Below W.heap.size W W'
def DelFP (base:Nat) (p:Pr→Bool) (l:List Pr) (v:Value) (w:World) (u:Value) (w':World):Prop:=
 RowPr 45 base u (l.filter fun r=> !p r) w'∧(∀g,v.ownBlock=some g→Kp [g] w w')∧(v.ownBlock=none→Below w.heap.size w w')
theorem idxP_before {p:Pr→Bool} {l:List Pr} {k:Nat} (h:idxP p l=k):∀j (hj:j<l.length),j<k→p l[j]=false:=by
 induction l generalizing k with
 | nil=>intro j hj;simp at hj
 | cons x l ih=>
  simp only[idxP] at h;intro j hj hjk;split at h
  ·omega
  ·rename_i hx;split at h
   ·omega
   ·cases k with
    | zero=>omega
    | succ k=>
     cases j with
     | zero=>simpa using hx
     | succ j=>
      have:=ih (k:=k) (by omega) j (by simpa using hj) (by omega);simpa using this
theorem filter_none {p:Pr→Bool} {l:List Pr} (h:∀x∈l,p x=false):(l.filter fun r=> !p r)=l:=List.filter_eq_self.2 fun x hx=>by rw[h x hx];rfl
theorem delF_any (f:FuncId) (eg:∀args w,(callFunc f args).run Tryz.prog w=.ok (.enter f args) w) (c:Value) (p:Pr→Bool) (base g cap:Nat) (l:List Pr) (w:World) (h:RowPr 45 base (.slice (some ⟨g,0,none⟩) l.length cap) l w) (hl:l.length≤1000000) (h64:∀r∈l,R64 r) (hp:PredK f #[c] p l g w):
 Calls Tryz.prog 44 #[.slice (some ⟨g,0,none⟩) l.length cap,.func (Fn.func f) #[] #[c]] w fun e w'=>∃u,e=.returned u∧DelFP base p l (.slice (some ⟨g,0,none⟩) l.length cap) w u w':=by
 have hcap:l.length≤cap:=by
  rcases h.2 with⟨e,_⟩ | ⟨g',c',cur,e,_,_,hc,_⟩
  ·cases e
  ·have:=(Value.slice.inj e).2.2;omega
 have E0:=idx_any f eg c p (.slice (some ⟨g,0,none⟩) l.length cap) l w (RowPr.pairs h (by omega) h64) (fun r hr W hb=>hp r hr W (Kp.of hb));have hr:=idxP_range p l;by_cases hno:idxP p l= -1
 ·rw[hno] at E0;have HZ:=hY2 h (filter_none (idxP_none.1 hno));clear h hl h64 hp hr hno hcap;go_enter Tryz.func44,Tryz.ntmps44
  go_wp2_with fail;go_fit E0;rintro e w1 ⟨rfl,b1⟩;have HP:Hid (DelFP base p l (.slice (some ⟨g,0,none⟩) l.length cap) w (.slice (some ⟨g,0,none⟩) l.length cap) w1):=⟨by rw[HZ.out.2];exact own_below HZ.out.1 b1 lRf,fun _ _=>Kp.of b1,fun _=>b1⟩
  clear b1 E0;go_wp2;go_ret;exact⟨_,rfl,HP.out⟩
 ·obtain⟨i0,hi0⟩:∃i:Nat,idxP p l=i:=⟨(idxP p l).toNat,by omega⟩
  rw[hi0] at E0;obtain⟨hil,hpi⟩:=idxP_true hi0;have hbefore:=idxP_before hi0;have hfl:((l.take (i0+1)).filter fun r=> !p r)=l.take i0:=by
   rw[List.take_succ_eq_append_getElem hil,List.filter_append,filter_none (fun x hx=>by
    obtain⟨j,hj,rfl⟩:=List.getElem_of_mem hx;rw[List.length_take] at hj;rw[List.getElem_take];exact hbefore j (by omega) (by omega))]
   simp[hpi]
  have HS0:Hid (l.take i0=((l.take (i0+1)).filter fun r=> !p r)∧(l.take i0).length+[l[i0]].length=i0+1∧RowPr 45 base (.slice (some ⟨g,0,none⟩) l.length cap) (l.take i0++[l[i0]]++l.drop (i0+1)) w):=by
   refine⟨hfl.symm,by simp;omega,?_⟩;have e:l.take i0++[l[i0]]++l.drop (i0+1)=l:=by rw[←List.take_succ_eq_append_getElem hil,List.take_append_drop]
   rw[e];exact h
  have HI:=hY4 hil hl hcap ((by rw[List.length_take];omega):(l.take i0).length=i0);have HQ:Hid (PredK f #[c] p l g w):=hp;have g1:(i0:Int)<1000000:=by omega
  clear h hl h64 hp hr hno hcap hi0 hpi hbefore hfl;go_enter Tryz.func44,Tryz.ntmps44
  go_wp2_with fail;go_fit E0;rintro e w1 ⟨rfl,b1⟩;have HS1:=hY2 (own_below HS0.out.2.2 b1 lRf) (Kp.of b1:Kp [g] w w1);have q0:((i0:Int)== -1)=false:=by simp
  clear b1 E0;go_wp2_with fail;go_loopg [5,6] (l.length - (i0+1)) (fun gk iv jv wr=>∃(j:Nat) (fl mid:List Pr),j+gk=l.length∧iv=.int .i64 fl.length∧jv=.int .i64 j∧Hid (fl=((l.take j).filter fun r=> !p r)∧fl.length+mid.length=j∧mid≠[]∧RowPr 45 base (.slice (some ⟨g,0,none⟩) l.length cap) (fl++mid++l.drop j) wr∧Kp [g] w wr))
  case atStart=>exact⟨i0+1,l.take i0,[l[i0]'HI.out.1],by have:=HI.out.1;omega,by rw[HI.out.2.2.2],by push_cast;rfl,HS0.out.1,HS0.out.2.1,by simp,HS1.out⟩
  case round=>
   clear HS0 HS1;obtain⟨j,fl,mid,hj,rfl,rfl,hS⟩:=hrel;have hlen:(fl++mid++l.drop j).length=l.length:=by
    have h1:=hS.out.2.1;simp;omega
   by_cases hlt:j<l.length
   ·have hjm:(fl++mid).length=j:=by rw[List.length_append];exact hS.out.2.1
    have hat:(fl++mid++l.drop j)[j]'(by rw[hlen];exact hlt)=l[j]:=by
     rw[List.getElem_append_right (by omega)];simp[hjm]
    have hrow':wr.ownsRow base 45 2 (.slice (some ⟨g,0,none⟩) l.length cap) l.length (pcells (fl++mid++l.drop j)):=by
     have:=hS.out.2.2.2.1;unfold RowPr at this;rw[hlen] at this;exact this
    have hpc:=pcells_at (fl++mid++l.drop j) j (by rw[hlen];exact hlt);rw[hat] at hpc;have x0:wr.cell? ⟨g,j*2,none⟩=some (.int .i64 l[j].1):=by rw[hrow'.cellAt (j*2) (by omega)];exact hpc.1
    have x1:wr.cell? ⟨g,j*2+1,none⟩=some (.int .i64 l[j].2):=by rw[hrow'.cellAt (j*2+1) (by omega)];exact hpc.2
    have g1:(j:Int)<l.length:=by omega
    have g2:(j:Int)<1000000:=by have:=HI.out;omega
    have g3:(fl.length:Int)<l.length:=by have:=hS.out.2.1;omega
    have g4:(fl.length:Int)<1000000:=by have:=HI.out;omega
    have bA:=bAl wr (.cells #[.int .i64 l[j].1,.int .i64 l[j].2] 45);have N:=heap_alloc_new wr (.cells #[.int .i64 l[j].1,.int .i64 l[j].2] 45);have E2:=HQ.out l[j] (List.getElem_mem hlt) _ (hS.out.2.2.2.2.trans (Kp.of bA));have rowA:=own_below hS.out.2.2.2.1 bA lRf;have htk:((l.take (j+1)).filter fun r=> !p r)=if p l[j]=true then fl else fl++[l[j]]:=by
     rw[List.take_succ_eq_append_getElem hlt,List.filter_append,←hS.out.1];cases hb:p l[j] <;> simp[hb]
    have hdr:l.drop j=l[j]::l.drop (j+1):=List.drop_eq_getElem_cons hlt;have hmid:=hS.out.2.2.1;obtain⟨m0,mt,rfl⟩:∃m0 mt,mid=m0::mt:=by cases mid with | nil=>exact absurd rfl hmid | cons a b=>exact⟨a,b,rfl⟩
    have hset:(fl++(m0::mt)++l.drop j).set fl.length l[j]=(fl++[l[j]])++(mt++[l[j]])++l.drop (j+1):=by
     rw[List.append_assoc,List.set_append_right _ _ lRf,Nat.sub_self,List.cons_append,List.set_cons_zero]
     conv=>lhs;rw[hdr]
     simp
    have hsame:fl++(m0::mt)++l.drop j=fl++((m0::mt)++[l[j]])++l.drop (j+1):=by
     conv=>lhs;rw[hdr]
     simp
    have hlen2:=hS.out.2.1;obtain⟨gcur,hgc⟩:∃cur,wr.heap[g]?=some (.cells cur 45):=by
     rcases hrow'.2 with⟨e,_⟩ | ⟨g',c',cur,e,_,hh,_⟩
     ·cases e
     ·have e1:=(Value.slice.inj e).1;have:g=g':=by have:=Option.some.inj e1;simpa using this
      subst this;exact⟨cur,hh⟩
    have y0:∃y,wr.cell? ⟨g,fl.length*2,none⟩=some y:=by
     have h5:=pcells_at (fl++(m0::mt)++l.drop j) fl.length (by rw[hlen];omega);exact⟨_,by rw[hrow'.cellAt (fl.length*2) (by omega)];exact h5.1⟩
    have y1:∃y,wr.cell? ⟨g,fl.length*2+1,none⟩=some y:=by
     have h5:=pcells_at (fl++(m0::mt)++l.drop j) fl.length (by rw[hlen];omega);exact⟨_,by rw[hrow'.cellAt (fl.length*2+1) (by omega)];exact h5.2⟩
    obtain⟨r,hr⟩:=gNz (l[j]);rw[hr] at x0 x1 bA N E2 rowA htk hset hsame;have HK:=hY3 hj hlt hlen2;have HF:=hY9 bA N rowA htk hset hsame hS.out.2.2.2.2 hgc hlen;have HY:=hY2 y0 y1;clear bA N rowA htk hset hsame hS hgc hlen hjm hat hrow' hpc hdr hmid hlen2 y0 y1 hj hlt hr;cases hpr:p r with
    | true=>
     rw[hpr] at E2;go_wp2_with fail;go_fit E2;rintro e w2 ⟨rfl,b2⟩;have HN:Hid (fl=((l.take (j+1)).filter fun r=> !p r)∧fl.length+(m0::mt++[r]).length=j+1∧(m0::mt++[r])≠[]∧RowPr 45 base (.slice (some ⟨g,0,none⟩) l.length cap) (fl++(m0::mt++[r])++l.drop (j+1)) w2∧Kp [g] w w2):=by
      obtain⟨bA,N,rowA,htk,hset,hsame,hkp,hgc,hlen⟩:=HF.out;refine⟨by rw[htk,if_pos hpr],?_,by simp,?_,(hkp.trans (Kp.of bA)).trans (Kp.of b2)⟩
      ·have:=HK.out.2.2;simp at this ⊢;omega
      ·rw[←hsame];exact own_below rowA b2 lRf
     clear b2 E2 x0 x1 g3 g4;go_wp2;go_roundg (gk - 1)
     case measure=>have:=HK.out;omega
     case rel=>exact⟨j+1,fl,m0::mt++[r],by have:=HK.out;omega,rfl,by first | rfl | go_num | (congr 1;unfold wrap64;have:=HK.out;omega),HN.out⟩
    | false=>
     rw[hpr] at E2;go_wp2_with fail;go_fit E2;rintro e w2 ⟨rfl,b2⟩;have g2h:=heap_below (heap_below HF.out.2.2.2.2.2.2.2.1 HF.out.1 lRf) b2 lRf;have N2:=heap_below HF.out.2.1 b2 lRf;obtain⟨⟨u0,y0⟩,⟨u1,y1⟩⟩:=HY.out;have bAB:=HF.out.1.trans (b2.mono HF.out.1.size);have c0:w2.cell? ⟨g,fl.length*2,none⟩=some u0:=(bAB.cell (p:=⟨g,fl.length*2,none⟩) (cell_in y0)).trans y0;have c1:w2.cell? ⟨g,fl.length*2+1,none⟩=some u1:=(bAB.cell (p:=⟨g,fl.length*2+1,none⟩) (cell_in y1)).trans y1;obtain⟨n0,n1,-⟩:=cLs N2;have ff:=fRz g2h;have zn:=lt_of_heap N2;have zg:=lt_of_heap g2h;have hne:¬wr.heap.size=g:=by have:=cell_in y0;simp at this;omega
     have HN:Hid (fl++[r]=((l.take (j+1)).filter fun r=> !p r)∧(fl++[r]).length+(mt++[r]).length=j+1∧(mt++[r])≠[]∧RowPr 45 base (.slice (some ⟨g,0,none⟩) l.length cap) ((fl++[r])++(mt++[r])++l.drop (j+1)) ((w2.setCell ⟨g,fl.length*2,none⟩ (.int .i64 r.1)).setCell ⟨g,fl.length*2+1,none⟩ (.int .i64 r.2))∧Kp [g] w ((w2.setCell ⟨g,fl.length*2,none⟩ (.int .i64 r.1)).setCell ⟨g,fl.length*2+1,none⟩ (.int .i64 r.2))):=by
      obtain⟨bA,N,rowA,htk,hset,hsame,hkp,hgc,hlen⟩:=HF.out;refine⟨by rw[htk,if_neg (by rw[hpr];simp)],?_,by simp,?_,?_⟩
      ·have:=HK.out.2.2;simp at this ⊢;omega
      ·rw[←hset];exact rowPr_set (own_below rowA b2 lRf) fl.length (by rw[hlen];have:=HK.out;omega) r
      ·have k1:=(hkp.trans (Kp.of bA)).trans (Kp.of b2);have sz:∀{W:World} (o:Nat) (x:Value),Kp [g] W (W.setCell ⟨g,o,none⟩ x):=fun {W} o x=>⟨rfl,rfl,rfl,by simp,fun k _ hk=>Below.heap_setCell _ _ _ k (by simpa using hk)⟩
       exact(k1.trans (sz _ _)).trans (sz _ _)
     clear b2 E2 x0 x1 g2h N2 y0 y1 bAB;go_wp2;go_roundg (gk - 1)
     case measure=>have:=HK.out;omega
     case rel=>exact⟨j+1,fl++[r],mt++[r],by have:=HK.out;omega,by simp,by first | rfl | go_num | (congr 1;unfold wrap64;have:=HK.out;omega),HN.out⟩
   ·have hje:j=l.length:=by omega
    have hfm:fl.length+mid.length=l.length:=by rw[←hje];exact hS.out.2.1
    have hm0:0<mid.length:=List.length_pos_iff.2 hS.out.2.2.1;have hff:fl=(l.filter fun r=> !p r):=by have:=hS.out.1;rw[hje,List.take_length] at this;exact this
    have hrow:RowPr 45 base (.slice (some ⟨g,0,none⟩) l.length cap) (fl++mid) wr:=by
     have:=hS.out.2.2.2.1;rw[hje,List.drop_length,List.append_nil] at this;exact this
    have hcut:=rowPr_cut hrow mid.length (f:=fl) (by simp) (by simp);obtain⟨gcur,hgc,hgs⟩:∃cur,wr.heap[g]?=some (.cells cur 45)∧l.length*2≤cur.size:=by
     rcases hrow.2 with⟨e,_⟩ | ⟨g',c',cur,e,_,hh,hc,_,hz,_⟩
     ·cases e
     ·have e1:=(Value.slice.inj e).1;have:g=g':=by have:=Option.some.inj e1;simpa using this
      subst this;exact⟨cur,hh,by rw[List.length_append] at hc;omega⟩
    have hrun:=run_clearRn wr 0 g (fl.length*2) mid.length (cap - fl.length) hm0 (fun t ht=>by simp[World.cell?,hgc];omega) (fun t _=>fRz hgc _);have HP:Hid (DelFP base p l (.slice (some ⟨g,0,none⟩) l.length cap) w (.slice (some ⟨g,0,none⟩) fl.length cap) (wr.setCells g (fl.length*2) (List.replicate (mid.length*2) (.int .i64 0)))):=by
     refine⟨by rw[←hff];exact hcut.1,fun g' e=>?_,fun e=>by cases e⟩;have:g=g':=by simpa [Value.ownBlock] using e
     subst this;have hg:=hcut.2;exact hS.out.2.2.2.2.trans ⟨hg.os,hg.tape,hg.output,hg.size,fun k hk hn=>hg.block k hk (fun e=>hn (by rw[Option.some.inj e];simp))⟩
    have g1:¬(j:Int)<l.length:=by omega
    have g2:(fl.length:Int)≤l.length:=by omega
    have g3:(fl.length:Int)≤cap:=by have:=HI.out;omega
    have g4:l.length - fl.length=mid.length:=by omega
    have g5:¬cap=fl.length:=by have:=HI.out;omega
    clear hlt hj hje hfm hm0 hff hrow hcut hgc hgs hS hlen;go_wp2_with (first | (at_builtin;refine wp_clear rfl _ 30 rfl _ _ _ rfl hrun ?_));go_ret;exact⟨_,rfl,HP.out⟩
end Go.Proofs.YtamhlgflbacjgaaGreat
