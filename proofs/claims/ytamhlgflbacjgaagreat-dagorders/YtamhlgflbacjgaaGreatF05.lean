/-
  What is proved: as each theorem says.
  Conditions: as each theorem says.
-/
import Derived.Test.YtamhlgflbacjgaaGreatF00
import Derived.Test.YtamhlgflbacjgaaGreatF03
import Derived.Shelf.SlIterI.Collect
import Derived.Shelf.SlSortCmp.InsertionK
import Derived.Deep.RegionHeld3
import Derived.Handy
set_option maxRecDepth 100000
set_option maxHeartbeats 16000000
namespace Go.Proofs.YtamhlgflbacjgaaGreat
open Go.RowKit Go.Maps Go.Sort Go.Shelf
def CollR (D0:DataW Value) (left:Lit→Bool) (ss:List Pr):Prop:=ss.Nodup∧(∀x∈ss,R64 x)∧∀x,R64 x→(x∈ss↔(Maps.has D0 (refL x)=true∧left (refL x)=false))
theorem sameKey_self (x:Pr):(refL x).sameKey (refL x)=true:=by unfold refL;simp[Lit.sameKey]
theorem sameKey_other {x y:Pr} (hx:R64 x) (hy:R64 y) (h:y≠x):(refL y).sameKey (refL x)=false:=by
 cases hs:(refL y).sameKey (refL x) with
 | false=>rfl
 | true=>
  refine absurd (refL_inj hy hx ?_) h;unfold refL at hs ⊢;simpa [Lit.sameKey] using hs
theorem CollR.start (D0:DataW Value):CollR D0 (Maps.has D0) []:=⟨List.nodup_nil,by simp,fun x _=>by cases Maps.has D0 (refL x) <;> simp⟩
theorem CollR.step {D0:DataW Value} {left:Lit→Bool} {ss:List Pr} (h:CollR D0 left ss) {x:Pr} (hx:R64 x) {y:DataW Value} (hlk:left (refL x)=true) (hat:∀zd,D0.atKey (refL x) zd=y):CollR D0 (fun z=>left z&& !z.sameKey (refL x)) (ss++[x]):=by
 have hhas:Maps.has D0 (refL x)=true:=has_true_of_atKey hat;have hnew:x∉ss:=fun hm=>by have:=((h.2.2 x hx).1 hm).2;rw[hlk] at this;cases this
 refine⟨List.nodup_append.2 ⟨h.1,by simp,fun a ha b hb=>by simp at hb;subst hb;exact fun e=>hnew (e▸ha)⟩,fun z hz=>?_,fun z hz=>?_⟩
 ·rcases List.mem_append.1 hz with e | e
  ·exact h.2.1 z e
  ·rw[List.mem_singleton.1 e];exact hx
 ·by_cases hy:z=x
  ·subst hy;simp[hhas,sameKey_self]
  ·simp[h.2.2 z hz,hy,sameKey_other hx hz hy]
theorem CollR.perm {D0:DataW Value} {left:Lit→Bool} {ss:List Pr} {L:List (Pr×Value)} (h:CollR D0 left ss) (hh:∀r,R64 r→Maps.has D0 (refL r)=(lk L r).isSome) (hn:(L.map (·.1)).Nodup) (h64:∀q∈L,R64 q.1) (hl:∀kl,left kl=false):ss.Perm (L.map (·.1)):=by
 refine(List.perm_ext_iff_of_nodup h.1 hn).2 fun x=>?_;have key:R64 x→(x∈ss↔x∈L.map (·.1)):=fun hx=>by
  rw[h.2.2 x hx,hl,hh x hx];constructor
  ·intro e;refine Classical.byContradiction fun hc=>?_;rw[lk_none.2 hc] at e;simp at e
  ·intro e;refine⟨?_,rfl⟩;cases hk:lk L x with
   | some _=>rfl
   | none=>exact absurd e (lk_none.1 hk)
 constructor
 ·intro e;exact(key (h.2.1 x e)).1 e
 ·intro e;obtain⟨q,hq,rfl⟩:=List.mem_map.1 e;exact(key (h64 q hq)).2 e
theorem keysR_in (n:Nat) (hn:1≤n) (l Bm b:Nat) (L:List (Pr×Value)) (J:List Pr→World→Prop)
 (hY:∀pre x W,J pre W→pre.length<L.length→YieldAt Fence.wide (n - 1) Tryz.prog l #[refV x] W fun e W'=>e=.returned (.bool true)∧J (pre++[x]) W'∧KeepsWalks W W')
 (W:World) (hJ:AbidesFrom W.heap.size J) (hm:W.cell? ⟨Bm,0,none⟩=some (.map (some b))) (M:MapL W b L) (h0:J [] W):
 CallsIn Fence.wide n Tryz.prog 115 #[.func (.yield l) #[] #[],.pointer (some ⟨Bm,0,none⟩)] W fun e W'=>(∃v,e=.returned v)∧∃ss:List Pr,ss.Perm (L.map (·.1))∧J ss W':=by
 obtain⟨D0,hown,hh,_,hsz⟩:=M.own;have hnd:=M.nd;have h64:=M.r64;rw[←hsz] at hY;refine callsIn_of_wp Tryz.func115 rfl trivial ?_ rfl;simp only[Tryz.ntmps115,List.size_toArray,List.length_cons,List.length_nil,Nat.reduceAdd,Nat.reduceSub,Array.replicate_succ,Array.replicate_zero,List.push_toArray,List.append_toArray,List.nil_append,List.cons_append]
 gi_wp2_with (first
  | (gi_at_range;refine wpListIn_range_own _ rfl _ 75 rfl 45 33 refLaw Tryz.underlying75 _ b L.length _ rfl hown ?_;intro w0 hrg0 hg0 hs0)
  | gi_in)
 go_frame
 gi_loopw [3] (fun _ wr=>∃(left:Lit→Bool) (cnt:Nat) (ss:List Pr),wr.ranges Tryz.prog 45 rawElem b W.heap.size L.length D0 left cnt∧ss.length+cnt≤Maps.size D0∧CollR D0 left ss∧J ss wr)
  (fun _ wr=>wr.rangeLeft b W.heap.size)
 case atStart=>
  exact⟨_,_,[],hrg0,by simp,CollR.start D0,hJ [] W w0 none h0 hg0 (fun r e=>by cases e)⟩
 case round=>
  obtain⟨left,cnt,ss,hrg,hcs,hC,hJs⟩:=hrel
  gi_wp2_with (first
   | (gi_at_next;refine wpListIn_next_ranges _ rfl _ rfl 45 refLaw rawElem refV id (fun key kl hk=>by obtain⟨x,hx,_⟩:=keyOf_inv hk;exact⟨x,hx⟩) (fun v _ _=>⟨v,rfl⟩) b W.heap.size L.length _ _ _ rfl hrg ?_ ?_)
   | gi_in)
  ·intro hc0 hl0
   gi_wp2
   go_end0;exact⟨⟨_,rfl⟩,ss,hC.perm hh hnd h64 hl0,hJs⟩
  ·intro x1 x2 c kl yd yp w2 cnt2 hkey hlk hv hat hrg2 hlt hg2 hs2 hen;obtain⟨x',ex,rfl,hx64⟩:=keyOf_inv hkey;obtain rfl:(x1,x2)=x':=by simpa [refV,Prod.ext_iff] using ex
   have hJ2:J ss w2:=hJ ss wr w2 (some W.heap.size) hJs hg2 (fun r e=>by cases e;exact⟨lRf,hrg.iter_walk⟩);have gA:=(show w2.grownBy (w2.alloc (.cells #[.int .i64 x1,.int .i64 x2] 45)) none from have b:=bAl w2 (.cells #[.int .i64 x1,.int .i64 x2] 45);⟨b.os,b.tape,b.output,b.size,fun k hk _=>b.block k hk⟩)
   have hJ3:J ss (w2.alloc (.cells #[.int .i64 x1,.int .i64 x2] 45)):=hJ ss w2 _ none hJ2 gA (fun r e=>by cases e);have hrg3:=hrg2.of_walks (KeepsWalks.alloc w2 (.cells #[.int .i64 x1,.int .i64 x2] 45));obtain⟨fn,tmps,assign,body,hy,hR⟩:=hY ss (x1,x2) _ hJ3 (by omega);clear hs2
   gi_wp2
   refine hR.mono ?_;rintro e W3 ⟨rfl,hJ4,hk4⟩
   gi_wp2
   have hrg4:=hrg3.of_walks hk4;go_roundw
   case rel=>exact⟨_,cnt2,ss++[(x1,x2)],hrg4,by simp;omega,hC.step hx64 hlk hat,hJ4⟩
   case measure=>rw[hrg4.left_eq,hrg.left_eq];exact hlt
theorem keysR_gives (n:Nat) (hn:1≤n) (Bm b:Nat) (L:List (Pr×Value)) (w:World) (hBm:Bm<w.heap.size) (hm:w.cell? ⟨Bm,0,none⟩=some (.map (some b))) (M:MapL w b L):
 SeqGives Fence.wide n Tryz.prog 115 #[.pointer (some ⟨Bm,0,none⟩)] refV (fun ss=>ss.Perm (L.map (·.1))) L.length w:=fun l J W hW hJ hY h0=>
 keysR_in n hn l Bm b L J hY W hJ ((hW.cell (p:=⟨Bm,0,none⟩) hBm).trans hm) (M.below hW) h0
def apAsg:Code:=(Code.region 2 #[{dst:=some 5,op:=Op.alloc 45,type:=0,pos := "iter.go:51",after:=#[],guard:=none},{dst:=none,op:=Op.store 45 (Operand.tmp 5) (Operand.tmp 7),type:=0,pos := "iter.go:51",after:=#[aD 0,aP 0],guard:=none}] false)
def apBdy:Code:=(Code.block 1 (Code.region 3 #[{dst:=some 8,op:=Op.load 30 (Operand.tmp 2),type:=30,pos := "iter.go:52",after:=#[],guard:=none},{dst:=some 9,op:=Op.load 45 (Operand.tmp 5),type:=45,pos := "iter.go:52",after:=#[],guard:=none},{dst:=some 10,op:=Op.buildSlice 30 1 #[(0,Operand.tmp 9)],type:=30,pos := "iter.go:52",after:=#[aD 1],guard:=none},{dst:=some 11,op:=Op.call {callee:=Callee.builtin Builtin.append,args:=#[Operand.tmp 8,Operand.tmp 10],argTypes:=#[30,30]},type:=30,pos := "iter.go:52",after:=#[aD 0,aD 2],guard:=none},{dst:=none,op:=Op.store 30 (Operand.tmp 2) (Operand.tmp 11),type:=0,pos := "iter.go:52",after:=#[aD 3,aC 3,aP 0,aP 1,aP 2,aP 3],guard:=none}] false))
def apRc (fn:FuncId) (sv:Value) (Bs D:Nat) (st:LoopState) (pend:Option Code):Loop:=
 {state:=st,pending:=pend,fn,tmps:=#[.slice none 0 0,sv,.pointer (some ⟨Bs,0,none⟩),undef,.slice none 0 0,undef,sv,undef,undef,undef,undef,undef,undef],params:=#[7],assign:=apAsg,body:=apBdy,defers:=D}
structure ApR (w0:World) (fn:FuncId) (sv:Value) (Bs l D:Nat) (ss:List Pr) (W:World):Prop where
 box:∃v,W.heap[Bs]?=some (.cells #[v] 30 (0,0))∧RowPr 45 w0.heap.size v ss W∧(v=.slice none 0 0↔ss=[])
 L:W.heap[l]?=some (.loop (apRc fn sv Bs D .ready none))
 K:W.heap[D]?=some (.deferred (some []))
 below:Below w0.heap.size w0 W
theorem apR_abides (w0:World) (fn:FuncId) (sv:Value) (Bs l D B:Nat) (hB:w0.heap.size≤B):AbidesFrom B (ApR w0 fn sv Bs l D):=fun s W W' row h hg hrow=>by
 have hrow':∀r,row=some r→∃o:Obj,W.heap[r]?=some o∧o.isWalk=true:=fun r e=>(hrow r e).2;obtain⟨v,hv,hr,hn⟩:=h.box;exact⟨⟨v,(grownBy_keeps hg hrow' hv rfl).trans hv,ownsRow_abides_a hr hg hrow',hn⟩,(grownBy_keeps hg hrow' h.L rfl).trans h.L,(grownBy_keeps hg hrow' h.K rfl).trans h.K,
  h.below.grown hg h.below.size (fun k e=>Nat.le_trans hB (hrow k e).1)⟩
theorem apR_yield (m:Nat) (w0:World) (fn:FuncId) (sv:Value) (Bs l D:Nat) (hBl:Bs≠l) (hDl:D≠l) (hDB:D≠Bs) (h0B:w0.heap.size≤Bs) (h0l:w0.heap.size≤l)
 (N:Nat) (hN:N≤1000000) (ss:List Pr) (x:Pr) (W:World) (h:ApR w0 fn sv Bs l D ss W) (hlen:ss.length<N):
 YieldAt Fence.wide m Tryz.prog l #[refV x] W fun e W'=>e=.returned (.bool true)∧ApR w0 fn sv Bs l D (ss++[x]) W'∧KeepsWalks W W':=by
 obtain⟨v,hv,hrow,_⟩:=h.box;refine⟨fn,#[.slice none 0 0,sv,.pointer (some ⟨Bs,0,none⟩),undef,.slice none 0 0,undef,sv,refV x,undef,undef,undef,undef,undef],apAsg,apBdy,by simpa [apRc] using run_yield (P:=Tryz.prog) (args:=#[refV x]) h.L rfl,roundIn_of_wpIn trivial ?_⟩;obtain⟨x1,x2⟩:=x;obtain⟨Wa,hWa⟩:=gNz (W.alloc (.cells #[.int .i64 x1,.int .i64 x2] 45));have ba:Below W.heap.size W Wa:=by rw[←hWa];exact bAl _ _
 have hxa:Wa.heap[W.heap.size]?=some (.cells #[.int .i64 x1,.int .i64 x2] 45):=by rw[←hWa];exact(MapKept.heap_alloc W _).1
 have hva:=heap_below hv ba lRf;have hKa:=heap_below h.K ba lRf;have hLa:=heap_below h.L ba lRf;have hrowa:RowPr 45 w0.heap.size v ss Wa:=own_below hrow ba lRf;have hba:Below w0.heap.size w0 Wa:=h.below.trans (ba.mono h.below.size);have hka:KeepsWalks W Wa:=by rw[←hWa];exact KeepsWalks.alloc _ _
 have hl:l<Wa.heap.size:=(Array.getElem?_eq_some_iff.1 hLa).1;have hlW:l<W.heap.size:=(Array.getElem?_eq_some_iff.1 h.L).1;have hbr:=run_beginRound (P:=Tryz.prog) hLa rfl;obtain⟨W2,hW2⟩:=gNz (Wa.putObj l (.loop {apRc fn sv Bs D .ready none with state:=.busy}));rw[hW2] at hbr;have hg2:Wa.grownBy W2 (some l):=by rw[←hW2];exact grownBy_putObj_a _ _ _
 have hk2:KeepsWalks W W2:=by rw[←hW2];exact hka.trans (KeepsWalks.putObj _ hLa rfl)
 have hv2:W2.heap[Bs]?=some (.cells #[v] 30 (0,0)):=by rw[←hW2];exact(World.putObj_heap_other hBl).trans hva
 have hK2:W2.heap[D]?=some (.deferred (some [])):=by rw[←hW2];exact(World.putObj_heap_other hDl).trans hKa
 have hx2:W2.heap[W.heap.size]?=some (.cells #[.int .i64 x1,.int .i64 x2] 45):=by rw[←hW2];exact(World.putObj_heap_other (by omega)).trans hxa
 have hL2:W2.heap[l]?=some (.loop {apRc fn sv Bs D .ready none with state:=.busy}):=by rw[←hW2];exact World.putObj_heap_same hl
 have hrow2:RowPr 45 w0.heap.size v ss W2:=hrowa.kept hg2 (ownsRow_ne_a hrowa hLa (fun cur e=>by cases e));have hb2:Below w0.heap.size w0 W2:=hba.grown hg2 hba.size (fun k e=>by cases e;exact h0l);obtain⟨hc2,hf2⟩:=cell_of_box_a hv2;obtain⟨c0,c1,-⟩:=cLs hx2;have hBlt:Bs<W2.heap.size:=(Array.getElem?_eq_some_iff.1 hv2).1;have hl2:l<W2.heap.size:=(Array.getElem?_eq_some_iff.1 hL2).1;have hDlt:D<W2.heap.size:=(Array.getElem?_eq_some_iff.1 hK2).1;have ne_of:∀{j:Nat} {o:Obj},W2.heap[j]?=some o→(∀cur,o≠.cells cur 45 (0,0))→some j≠v.ownBlock:=fun hj hno=>by
  rcases ownsRow_ne_a hrow2 hj hno with e | e
  ·rw[e];simp
  ·exact fun e'=>e e'.symm
 clear hW2;unfold apAsg
 gi_wp2_with gi_round_op_a
 clear hbr hWa;obtain⟨i0,hi,hz0,hz1,hz2⟩:=info_parts infoR;unfold apBdy;have cN:∀(j:Nat) (u:Value),[Value.int IntKind.i64 x1,Value.int IntKind.i64 x2][j]?=some u→(W2.alloc (Obj.cells #[Value.int IntKind.i64 x1,Value.int IntKind.i64 x2] 45)).cell? (Addr.add ⟨W2.heap.size,0,none⟩ j)=some u:=by
  intro j u hj;have hn:=(MapKept.heap_alloc W2 (.cells #[.int .i64 x1,.int .i64 x2] 45)).1
  match j,hj with
  | 0,hj=>simp at hj;subst hj;exact cLo hn 0
  | 1,hj=>simp at hj;subst hj;exact cLo hn 1
  | j+2,hj=>simp at hj
 gi_wp2_with (first
  | (gi_at_builtin;refine wpListIn_append_own _ rfl _ _ 30 rfl w0.heap.size 45 i0 (.agg #[.int .i64 0,.int .i64 0]) 2 16 Tryz.underlying30 hi hz0 hz1 hz2 rfl (by decide) _ _ _ rfl (hrow2.alloc _) ⟨W2.heap.size,0,none⟩ 1 1 [.int .i64 x1,.int .i64 x2] rfl rfl cN (by simp[Value.oneCell']) (by unfold maxLen;omega) (by omega) (by have:=hb2.size;simp;omega) ?_;intro v' w3 hown' hg3 hnil3
     have hv3:w3.heap[Bs]?=some (.cells #[v] 30 (0,0)):=(hg3.block Bs (by simp;omega) (ne_of hv2 (fun cur e=>by cases e))).trans ((Below.heap_alloc _ _ Bs hBlt).trans hv2);obtain⟨hc3,hf3⟩:=cell_of_box_a hv3;obtain⟨g',cap',cur',rfl,hbase',hgb',hr1,hr2,hr3,hr4⟩:∃g' cap' cur',v'=.slice (some ⟨g',0,none⟩) (ss.length+1) cap'∧w0.heap.size≤g'∧w3.heap[g']?=some (.cells cur' 45 (0,0))∧ss.length+1≤cap'∧cap'≤maxLen∧cur'.size=cap'*2∧cur'.toList.take ((ss.length+1)*2)=pcells ss++[.int .i64 x1,.int .i64 x2]:=by
      rcases hown'.2 with⟨_,h0⟩ | h'
      ·exact absurd h0 (by omega)
      ·exact h'
     go_frame)
  | gi_round_op_a)
 have hg3':(W2.alloc (.cells #[.int .i64 x1,.int .i64 x2] 45)).grownBy w3 v.ownBlock:=hg3;have hL3:w3.heap[l]?=some (.loop {apRc fn sv Bs D .ready none with state:=.busy}):=(hg3'.block l (by simp;omega) (ne_of hL2 (fun cur e=>by cases e))).trans ((Below.heap_alloc _ _ l hl2).trans hL2);have hK3:w3.heap[D]?=some (.deferred (some [])):=(hg3'.block D (by simp;omega) (ne_of hK2 (fun cur e=>by cases e))).trans ((Below.heap_alloc _ _ D hDlt).trans hK2);obtain⟨w4,hw4⟩:=gNz (w3.setCell ⟨Bs,0,none⟩ (.slice (some ⟨g',0,none⟩) (ss.length+1) cap'));rw[hw4];have hg4:w3.grownBy w4 (some Bs):=by rw[←hw4];exact grownBy_setCell0_a _ _ _
 have hv4:w4.heap[Bs]?=some (.cells #[.slice (some ⟨g',0,none⟩) (ss.length+1) cap'] 30 (0,0)):=by rw[←hw4];exact heap_setCell_box_a _ hv3
 have hL4:w4.heap[l]?=some (.loop {apRc fn sv Bs D .ready none with state:=.busy}):=(hg4.block l (Array.getElem?_eq_some_iff.1 hL3).1 (fun e=>hBl (by cases e;rfl))).trans hL3;have hK4:w4.heap[D]?=some (.deferred (some [])):=(hg4.block D (Array.getElem?_eq_some_iff.1 hK3).1 (fun e=>hDB (by cases e;rfl))).trans hK3;have hrow4:=hown'.kept hg4 (ownsRow_ne_a hown' hv3 (fun cur e=>by cases e));have hl4:l<w4.heap.size:=(Array.getElem?_eq_some_iff.1 hL4).1;have hb3:Below w0.heap.size w0 w3:=(hb2.alloc hb2.size _).grown hg3' (by have:=hb2.size;simp;omega) (fun k e=>(hrow2.lt k e).1);have hb4:Below w0.heap.size w0 w4:=hb3.grown hg4 hb3.size (fun k e=>by cases e;exact h0B);have hk4:KeepsWalks W w4:=((hk2.trans (KeepsWalks.alloc _ _)).trans (KeepsWalks.of_grownBy hg3' (ownsRow_not_walk_a (hrow2.alloc _)))).trans (by rw[←hw4];exact KeepsWalks.setCell _ _ _);clear hw4;refine⟨_,_,run_endRound none hL4,rfl,⟨⟨_,(World.putObj_heap_other hBl).trans hv4,?_,by simp⟩,World.putObj_heap_same hl4,(World.putObj_heap_other hDl).trans hK4,hb4.grown (grownBy_putObj_a _ _ _) hb4.size (fun k e=>by cases e;exact h0l)⟩,hk4.trans (KeepsWalks.putObj _ hL4 rfl)⟩;have:=hrow4.kept (grownBy_putObj_a w4 l (.loop {{apRc fn sv Bs D .ready none with state:=.busy} with state:=if (none:Option Code).isNone then .ready else .done,pending:=none})) (ownsRow_ne_a hrow4 hL4 (fun cur e=>by cases e));show World.ownsRow _ _ _ _ _ _ _;rw[pcells_append,List.length_append];exact this
theorem appendSeqR_in (n:Nat) (hn:2≤n) (g:Nat) (lb:Array Value) (eg:∀args w,(callFunc g args).run Tryz.prog w=.ok (.enter g args) w)
 (S:List Pr→Prop) (N:Nat) (hN:N≤1000000) (w:World) (hseq:SeqGives Fence.wide (n - 1) Tryz.prog g lb refV S N w):
 CallsIn Fence.wide n Tryz.prog 146 #[.slice none 0 0,.func (.func g) #[] lb] w fun e w'=>∃(v:Value) (ss:List Pr),e=.returned v∧S ss∧RowPr 45 w.heap.size v ss w'∧(v=.slice none 0 0↔ss=[])∧Below w.heap.size w w':=by
 have h1:1≤n:=by omega
 refine callsIn_of_wp_marks Tryz.func146 rfl trivial ?_ rfl;simp only[Tryz.ntmps146,List.size_toArray,List.length_cons,List.length_nil,Nat.reduceAdd,Nat.reduceSub,Array.replicate_succ,Array.replicate_zero,List.push_toArray,List.append_toArray,List.nil_append,List.cons_append]
 gi_wp2
 refine wpIn_rangeFunc ?_;intro fn hfn;obtain⟨W0,hW0⟩:=gNz (w.alloc (.cells #[.slice none 0 0] 30));have hs0:W0.heap.size=w.heap.size+1:=by rw[←hW0];simp
 have hv0:W0.heap[w.heap.size]?=some (.cells #[.slice none 0 0] 30 (0,0)):=by rw[←hW0];exact World.alloc_heap_new w _
 have hb0:Below w.heap.size w W0:=by rw[←hW0];exact bAl w _
 rw[hW0];obtain⟨W1,hW1⟩:=gNz ((W0.alloc (.deferred (some []))).alloc (.loop (apRc fn (.func (.func g) #[] lb) w.heap.size W0.heap.size .ready none)));have hold:∀k,k<W0.heap.size→W1.heap[k]?=W0.heap[k]?:=fun k hk=>by
  rw[←hW1];exact(Below.heap_alloc _ _ k (by simp;omega)).trans (Below.heap_alloc _ _ k hk)
 have hb1:Below w.heap.size w W1:=by rw[←hW1];exact(hb0.alloc hb0.size _).alloc (by have:=hb0.size;simp;omega) _
 have hs1:W1.heap.size=W0.heap.size+2:=by rw[←hW1];simp
 have hM:ApR w fn (.func (.func g) #[] lb) w.heap.size (W0.heap.size+1) W0.heap.size [] W1:=
  ⟨⟨_,(hold w.heap.size (by omega)).trans hv0,⟨rfl,.inl ⟨rfl,rfl⟩⟩,by simp⟩,
   by rw[←hW1];have:=World.alloc_heap_new (W0.alloc (.deferred (some []))) (.loop (apRc fn (.func (.func g) #[] lb) w.heap.size W0.heap.size .ready none));rwa [World.size_alloc] at this,
   by rw[←hW1];exact(Below.heap_alloc _ _ _ (by simp)).trans (World.alloc_heap_new W0 _),hb1⟩
 refine⟨W0.heap.size+1,[{target:=.collected W0.heap.size,args:=#[]}],W1,{target:=.fn (.func g) lb,args:=#[.func (.yield (W0.heap.size+1)) #[] #[]]},W1,g,
  #[.func (.yield (W0.heap.size+1)) #[] #[]]++lb,W1,?_,?_,?_,?_,fun _=>h1,?_⟩
 ·rw[←hW1];exact run_enterLoop_outer _ _ _ _ _
 ·simp[resolve,go_sem]
 ·intro f' hf';trivial
 ·simp[invoke,go_sem,eg]
 ·refine(hseq (W0.heap.size+1) (ApR w fn (.func (.func g) #[] lb) w.heap.size (W0.heap.size+1) W0.heap.size) W1 hb1 (apR_abides _ _ _ _ _ _ _ hb1.size)
   (fun pre x W hJ hl=>apR_yield (n - 1 - 1) w fn _ w.heap.size (W0.heap.size+1) W0.heap.size (by omega) (by omega) (by omega) lRf (by omega) N hN pre x W hJ hl) hM).mono ?_
  rintro e W2 ⟨⟨v0,rfl⟩,ss,hS,h2⟩;obtain⟨v,hv,hrow,hnil⟩:=h2.box;have hend:=run_endLoop (P:=Tryz.prog) h2.L (by simp[apRc]);obtain⟨W3,hW3⟩:=gNz (W2.putObj (W0.heap.size+1) (.loop {apRc fn (.func (.func g) #[] lb) w.heap.size W0.heap.size .ready none with state:=.exhausted}));rw[hW3] at hend;have hg3:W2.grownBy W3 (some (W0.heap.size+1)):=by rw[←hW3];exact grownBy_putObj_a _ _ _
  have hv3:W3.heap[w.heap.size]?=some (.cells #[v] 30 (0,0)):=by rw[←hW3];exact(World.putObj_heap_other (by omega)).trans hv
  have hK3:W3.heap[W0.heap.size]?=some (.deferred (some [])):=by rw[←hW3];exact(World.putObj_heap_other (by omega)).trans h2.K
  have hrow3:=hrow.kept hg3 (ownsRow_ne_a hrow h2.L (fun cur e=>by cases e));have hb3:Below w.heap.size w W3:=h2.below.grown hg3 h2.below.size (fun k e=>by cases e;omega);obtain⟨hc3,hf3⟩:=cell_of_box_a hv3;clear hW3;refine⟨none,W3,hend,?_⟩
  gi_wp2
  rw[←hs0];refine⟨by simp,.inl ⟨_,_,rfl,run_takeDeferred hK3,?_⟩⟩;exact⟨_,results_tmp rfl _ _ _,v,ss,rfl,hS,hrow3.kept (grownBy_putObj_a _ _ _) (ownsRow_ne_a hrow3 hK3 (fun cur e=>by cases e)),hnil,hb3.grown (grownBy_putObj_a _ _ _) hb3.size (fun k e=>by cases e;omega)⟩
theorem collectR_in (n:Nat) (hn:3≤n) (g:Nat) (lb:Array Value) (eg:∀args w,(callFunc g args).run Tryz.prog w=.ok (.enter g args) w)
 (S:List Pr→Prop) (N:Nat) (hN:N≤1000000) (w:World) (hseq:SeqGives Fence.wide (n - 1 - 1) Tryz.prog g lb refV S N w):
 CallsIn Fence.wide n Tryz.prog 114 #[.func (.func g) #[] lb] w fun e w'=>∃(v:Value) (ss:List Pr),e=.returned v∧S ss∧RowPr 45 w.heap.size v ss w'∧(v=.slice none 0 0↔ss=[])∧Below w.heap.size w w':=by
 refine callsIn_of_wp Tryz.func114 rfl trivial ?_ rfl;simp only[Tryz.ntmps114,List.size_toArray,List.length_cons,List.length_nil,Nat.reduceAdd,Nat.reduceSub,Array.replicate_succ,Array.replicate_zero,List.push_toArray,List.append_toArray,List.nil_append,List.cons_append];have e11:∀args w,(callFunc 146 args).run Tryz.prog w=.ok (.enter 146 args) w:=enters_of Tryz.func146 (by kernel_rfl) rfl;have h1:1≤n:=by omega
 have h11:Fence.wide.fn 146:=trivial
 gi_wp2_with (gi_at_fn 146;refine(appendSeqR_in (n - 1) (by omega) g lb eg S N hN _ hseq).mono ?_;rintro e w' ⟨v,ss,rfl,hS,hrow,hnil,hb⟩)
 go_ret;exact⟨v,ss,rfl,hS,hrow,hnil,hb⟩
end Go.Proofs.YtamhlgflbacjgaaGreat
namespace Go.Proofs.YtamhlgflbacjgaaGreat
open Go.RowKit Go.Maps Go.Sort Go.Shelf Go.Lib
def cR (x y:Pr):Int:=or2 (cI x.1 y.1) (cI x.2 y.2)
def ltR (x y:Pr):Prop:=x.1<y.1∨x.1=y.1∧x.2<y.2
theorem ltOf_cR (x y:Pr):ltOf cR x y=true↔ltR x y:=by
 unfold ltOf cR or2 cI ltR;simp only[decide_eq_true_eq];split <;> split <;> (try split) <;> (try split) <;> omega
theorem swoR:SWO (ltOf cR) where
 irrefl x:=by
  cases h:ltOf cR x x with
  | false=>rfl
  | true=>have:=(ltOf_cR x x).1 h;unfold ltR at this;omega
 trans x y z h1 h2:=by
  rw[ltOf_cR] at *;unfold ltR at *;omega
 ntrans x y z h1 h2:=by
  cases h:ltOf cR x z with
  | false=>rfl
  | true=>
   have h3:=(ltOf_cR x z).1 h;have h4:¬ltR x y:=fun e=>by rw[(ltOf_cR x y).2 e] at h1;cases h1
   have h5:¬ltR y z:=fun e=>by rw[(ltOf_cR y z).2 e] at h2;cases h2
   unfold ltR at *;omega
def encR (x:Pr):List Value:=[.int .i64 x.1,.int .i64 x.2]
theorem flat_pcells (ss:List Pr):flatK encR 2 ss.toArray=(pcells ss).toArray:=by
 apply Array.ext_getElem?;intro t;by_cases ht:t<ss.length*2
 ·have hi:t / 2<ss.length:=by omega
  have h0:(flatK encR 2 ss.toArray)[t]?=some ((encR ss.toArray[t / 2]!)[t % 2]!):=by
   rw[←get_flatK encR 2 ss.toArray t (by simpa using ht)];rw[Array.getElem?_eq_getElem (by rw[size_flatK];simpa using ht),getElem!_pos]
  have h1:ss.toArray[t / 2]! = ss[t / 2]:=by rw[getElem!_pos _ _ (by simpa using hi)];simp
  rw[h0,h1];have h2:=pcells_at ss (t / 2) hi;simp only[List.getElem?_toArray];rcases Nat.mod_two_eq_zero_or_one t with e | e
  ·have:t=t / 2*2:=by omega
   rw[e]
   conv=>rhs;rw[this]
   rw[h2.1];rfl
  ·have:t=t / 2*2+1:=by omega
   rw[e]
   conv=>rhs;rw[this]
   rw[h2.2];rfl
 ·rw[Array.getElem?_eq_none (by rw[size_flatK];simp;omega),Array.getElem?_eq_none (by simp[pcells_len];omega)]
theorem holdsR_of_block {w:World} {g:Nat} {cur:Array Value} {e:TypeId} {ss:List Pr} (hb:w.heap[g]?=some (.cells cur e (0,0))) (ht:cur.toList.take (ss.length*2)=pcells ss):HoldsK encR 2 w g 0 ss.toArray:=by
 unfold HoldsK;rw[flat_pcells];intro j hj;have hj':j<(pcells ss).length:=by simpa using hj
 have hj2:j<ss.length*2:=by rw[←pcells_len];exact hj'
 refine⟨?_,by simp[World.frozen?,hb]⟩;have h1:(cur.toList.take (ss.length*2))[j]?=(pcells ss)[j]?:=by rw[ht]
 rw[List.getElem?_take_of_lt hj2] at h1;simp only[World.cell?,hb,Nat.zero_add];simp only[Option.isSome_none,Bool.false_eq_true,if_false];rw[←Array.getElem?_toList,h1];simp[hj']
theorem heap_sortedV {w:World} {g n:Nat} {os:Array Obj} {cur:Array Value} {e:TypeId} {fr:Nat×Nat} (d:Array Value) (hb:w.heap[g]?=some (.cells cur e fr)):
 (grow (putRow id (Sort.ahead w n) g 0 d) os).heap[g]?=some (.cells (putCells id 0 d cur) e fr):=by
 have hg:g<w.heap.size:=(Array.getElem?_eq_some_iff.1 hb).1;rw[heap_grow_old _ _ (by simpa using hg)];simp[putRow,mapBlock,Sort.ahead,Array.getElem?_modify,hb,onCells]
theorem grownBy_sortedV {w:World} {g n:Nat} {os:Array Obj} (d:Array Value):w.grownBy (grow (putRow id (Sort.ahead w n) g 0 d) os) (some g):=by
 refine⟨rfl,rfl,rfl,by simp,fun k hk hne=>?_⟩;rw[heap_grow_old _ _ (by simpa using hk)];have:g≠k:=fun e=>hne (by rw[e]);simp[putRow,mapBlock,Sort.ahead,Array.getElem?_modify,this]
theorem take_putCellsV (cur:Array Value) (ts:List Value) (h:ts.length≤cur.size):(putCells id 0 ts.toArray cur).toList.take ts.length=ts:=by
 apply List.ext_getElem?;intro j;by_cases hj:j<ts.length
 ·rw[List.getElem?_take_of_lt hj,Array.getElem?_toList];simp[putCells,hj,show j<cur.size by omega]
 ·rw[List.getElem?_take_eq_none (by omega),List.getElem?_eq_none (by omega)]
theorem rowPr_sorted {w:World} {base g cap n:Nat} {e:TypeId} {os:Array Obj} {cur:Array Value} {ss ts:List Pr} (hl:ts.length=ss.length) (hbase:base≤g) (hb:w.heap[g]?=some (.cells cur e (0,0)))
 (h1:ss.length≤cap) (h2:cap≤maxLen) (h3:cur.size=cap*2):
 RowPr e base (.slice (some ⟨g,0,none⟩) ss.length cap) ts (sortWorldK encR 2 w g 0 n ts.toArray os):=by
 unfold sortWorldK putRowK;rw[flat_pcells];have hp:=pcells_len ts;refine⟨hp,.inr ⟨g,cap,_,by rw[hl],hbase,heap_sortedV _ hb,by omega,h2,by simp[putCells,h3],?_⟩⟩;have:=take_putCellsV cur (pcells ts) (by omega);rw[hp] at this;exact this
theorem compareI_any (x y:Int) (w:World):
 Calls Tryz.prog 85 #[.int .i64 x,.int .i64 y] w fun e w'=>e=.returned (.int .i64 (cI x y))∧w'=w:=by
 unfold cI;by_cases h1:x<y
 ·go_enter Tryz.func85,Tryz.ntmps85
  go_wp2;go_ret;exact⟨by simp,rfl⟩
 ·by_cases h2:y<x
  ·go_enter Tryz.func85,Tryz.ntmps85
   go_wp2;go_ret;exact⟨by simp,rfl⟩
  ·go_enter Tryz.func85,Tryz.ntmps85
   go_wp2;go_ret;exact⟨by simp,rfl⟩
theorem or2_any (x y:Int) (g:Nat) (w:World) (h0:w.cell? ⟨g,0,none⟩=some (.int .i64 x)) (h1:w.cell? ⟨g,1,none⟩=some (.int .i64 y)):
 Calls Tryz.prog 84 #[.slice (some ⟨g,0,none⟩) 2 2] w fun e w'=>e=.returned (.int .i64 (or2 x y))∧w'=w:=by
 unfold or2;by_cases k0:x=0
 ·subst k0;by_cases k1:y=0
  ·subst k1;go_enter Tryz.func84,Tryz.ntmps84
   go_wp2;go_rounds 3;go_ret;exact⟨by simp,rfl⟩
  ·go_enter Tryz.func84,Tryz.ntmps84
   go_wp2;go_rounds 3;go_ret;exact⟨by simp,rfl⟩
 ·go_enter Tryz.func84,Tryz.ntmps84
  go_wp2;go_rounds 3;go_ret;exact⟨by simp,rfl⟩
theorem new_cell (W:World) (a b:Value) (t:TypeId) (k:Nat) (hk:k=W.heap.size):(W.alloc (.cells #[a,b] t)).cell? ⟨k,0,none⟩=some a∧(W.alloc (.cells #[a,b] t)).cell? ⟨k,1,none⟩=some b:=by
 subst hk;have h:=(MapKept.heap_alloc W (.cells #[a,b] t)).1;exact⟨cLo h 0,cLo h 1⟩
theorem compareR_any (x y:Pr) (w:World):
 Calls Tryz.prog 48 #[refV x,refV y] w fun e w'=>e=.returned (.int .i64 (cR x y))∧∃q os,w'=grow (w.drewN q) os:=by
 obtain⟨x1,x2⟩:=x;obtain⟨y1,y2⟩:=y;unfold cR;dsimp only;go_enter Tryz.func48,Tryz.ntmps48
 go_wp2;go_region_held3 (fun W=>W.cell? ⟨w.heap.size,0,none⟩=some (.int .i64 x1)∧W.cell? ⟨w.heap.size,1,none⟩=some (.int .i64 x2)∧W.cell? ⟨w.heap.size+1,0,none⟩=some (.int .i64 y1)∧W.cell? ⟨w.heap.size+1,1,none⟩=some (.int .i64 y2)) (first | go_keep) (first
  | (go_at_call 85;refine(compareI_any _ _ _).mono ?_;rintro e w' ⟨rfl,rfl⟩)
  | (go_at_call 84;refine(or2_any (cI x1 y1) (cI x2 y2) _ _ (by simp;exact(new_cell _ _ _ _ _ (by simp)).1) (by simp;exact(new_cell _ _ _ _ _ (by simp)).2)).mono ?_;rintro e w' ⟨rfl,rfl⟩))
 go_wp2;go_ret;exact⟨rfl,1,_,by rw[alloc_eq_grow,alloc_eq_grow,alloc_eq_grow,grow_grow,grow_grow];rfl⟩
end Go.Proofs.YtamhlgflbacjgaaGreat
