/-
  What is proved: as each theorem says.
  Conditions: as each theorem says.
-/
import Derived.Test.YtamhlgflbacjgaaGreatF00
import Derived.Test.YtamhlgflbacjgaaGreatF05
import Derived.Test.YtamhlgflbacjgaaGreatShelf
import Derived.Test.YtamhlgflbacjgaaGreatF04
import Derived.Laws.OwnMore
set_option maxRecDepth 100000
set_option maxHeartbeats 16000000
namespace Go.Proofs.YtamhlgflbacjgaaGreat
open Go.RowKit Go.Maps Go.Sort Go.Shelf Go.Lib
def Rise (l:List Pr):Prop:=l.Pairwise ltR
theorem rise_unique {l m:List Pr} (hp:l.Perm m) (hl:Rise l) (hm:Rise m):l=m:=by
 refine List.Perm.eq_of_pairwise (le:=ltR) (fun a b _ _ h1 h2=>?_) hl hm hp;unfold ltR at h1 h2;omega
theorem sortR_any (g cap base:Nat) (ss:List Pr) (w:World) (hR:RowPr 45 base (.slice (some ⟨g,0,none⟩) ss.length cap) ss w) (hn:ss.Nodup) (hl:ss.length≤1000000):
 Calls Tryz.prog 47 #[.slice (some ⟨g,0,none⟩) ss.length cap,.func (.func 48) #[] #[]] w fun e w'=>e=.returned (.tuple #[])∧∃ts:List Pr,ts.Perm ss∧Rise ts∧RowPr 45 base (.slice (some ⟨g,0,none⟩) ss.length cap) ts w'∧w.grownBy w' (some g):=by
 have eg:∀args w,(callFunc 48 args).run Tryz.prog w=.ok (.enter 48 args) w:=enters_of Tryz.func48 (by kernel_rfl) rfl;rcases hR.2 with⟨h0,_⟩ | ⟨g',cap',cur,e1,hbase,hb,h1,h2,h3,h4⟩
 ·cases h0
 obtain⟨e2,_,e3⟩:=Value.slice.inj e1;obtain rfl:g=g':=by have:=Option.some.inj e2;simpa using this
 subst e3;have hH:=holdsR_of_block (ss:=ss) hb h4;have hcon:=AnyQ.slices_SortFunc Tryz.sortA 2 Tryz.isAgg45 Tryz.sizeOf45 encR (fun _=>rfl) (fun x v hv=>by simp[encR] at hv;rcases hv with rfl | rfl <;> rfl) cR swoR 48 #[] g 0 cap ss.toArray w eg (fun _ _ _ _ x y=>compareR_any x y _) hH (lt_of_heap hb) (by simp;omega);rw[show ss.toArray.size=ss.length from by simp] at hcon;refine Calls.mono hcon ?_;rintro e w' ⟨rfl,d',n,os,hp,hs,rfl⟩;obtain⟨p1,_,p3⟩:=hp;have p1':d'.size=ss.length:=by simpa using p1
 have e4:d'.extract 0 ss.length=d':=by rw[←p1'];exact Array.extract_size
 have e5:ss.toArray.extract 0 ss.length=ss.toArray:=by
  simp
 rw[e4,e5] at p3;have p4:d'.toList.Perm ss:=by simpa using p3
 refine⟨rfl,d'.toList,p4,?_,?_,?_⟩
 ·refine List.pairwise_iff_getElem.2 fun i j hi hj hij=>?_;have q1:i<d'.size:=by simpa using hi
  have q2:j<d'.size:=by simpa using hj
  have h5:=hs i j (Nat.zero_le _) hij (by omega);rw[getElem!_pos d' j q2,getElem!_pos d' i q1] at h5;have h6:¬ltR d'[j] d'[i]:=fun e=>by rw[(ltOf_cR _ _).2 e] at h5;cases h5
  have h7:d'[i]≠d'[j]:=fun e=>by
   have hnd:=p4.nodup_iff.2 hn;have h9:=List.pairwise_iff_getElem.1 hnd i j hi hj hij;simp only[Array.getElem_toList] at h9;exact h9 e
  simp only[Array.getElem_toList];unfold ltR at h6 ⊢;have h8:¬(d'[i].1=d'[j].1∧d'[i].2=d'[j].2):=fun e=>h7 (Prod.ext e.1 e.2);omega
 ·have:=rowPr_sorted (n:=n) (os:=os) (ts:=d'.toList) (ss:=ss) (by simpa using p1') hbase hb h1 h2 h3;simpa using this
 ·unfold sortWorldK putRowK;exact grownBy_sortedV _
theorem mapsKeys_any (b:Nat) (w:World):Calls Tryz.prog 79 #[.map (some b)] w fun e w'=>e=.returned (.func (.func 115) #[] #[.pointer (some ⟨w.heap.size,0,none⟩)])∧w'=w.alloc (.cells #[.map (some b)] 75):=by
 go_enter Tryz.func79,Tryz.ntmps79
 go_wp2;go_ret;exact⟨rfl,rfl⟩
theorem sortedFunc_any (g:Nat) (lb:Array Value) (eg:∀args w,(callFunc g args).run Tryz.prog w=.ok (.enter g args) w) (S:List Pr→Prop) (N:Nat) (hN:N≤1000000) (w:World) (hS:∀ss,S ss→ss.Nodup∧ss.length≤1000000) (hseq:SeqGives Fence.wide 1 Tryz.prog g lb refV S N w):
 Calls Tryz.prog 78 #[.func (.func g) #[] lb,.func (.func 48) #[] #[]] w fun e w'=>∃(v:Value) (ss ts:List Pr),e=.returned v∧S ss∧ts.Perm ss∧Rise ts∧RowPr 45 w.heap.size v ts w'∧Below w.heap.size w w':=by
 have C:=callsIn_wide.1 (collectR_in 3 (by omega) g lb eg S N hN w hseq);go_enter Tryz.func78,Tryz.ntmps78
 go_wp2_with fail;go_fit C;rintro e w1 ⟨v,ss,rfl,hSs,hrow,hnil,hb⟩;clear C;obtain⟨hn,hl⟩:=hS ss hSs;rcases hrow.2 with⟨rfl,h0⟩ | ⟨g1,cap,cur,rfl,hbase,hb1,h1,h2,h3,h4⟩
 ·have E:=AnyF.slices_SortFunc_none Tryz.sortA none 0 (.func (.func 48) #[] #[]) w1;change Calls Tryz.prog 47 _ _ _ at E;have hss:ss=[]:=List.length_eq_zero_iff.1 h0;subst hss;have HH:=hY3 hSs hrow hb;clear hSs hrow hb hnil hn hl hseq;go_wp2_with fail;go_fit E;rintro e w2 ⟨rfl,rfl⟩;go_wp2;go_ret;exact⟨_,[],[],rfl,HH.out.1,List.Perm.refl _,List.Pairwise.nil,HH.out.2.1,HH.out.2.2⟩
 ·have E:=sortR_any g1 cap w.heap.size ss w1 hrow hn hl;have HH:=hY3 hSs hbase hb;clear hSs hrow hb hnil hn hl hseq hb1 h1 h2 h3 h4 hbase;go_wp2_with fail;go_fit E;rintro e w2 ⟨rfl,ts,q1,q2,q3,q4⟩;have HQ:=hY3 q1 q2 q3;have HB:Hid (Below w.heap.size w w2):=HH.out.2.2.grown q4 HH.out.2.2.size (fun k e=>by cases e;exact HH.out.2.1);clear q1 q2 q3 q4 E;go_wp2;go_ret;exact⟨_,ss,ts,rfl,HH.out.1,HQ.out.1,HQ.out.2.1,HQ.out.2.2,HB.out⟩
theorem risingKeys_any (b:Nat) (L:List (Pr×Value)) (w:World) (M:MapL w b L) (hl:L.length≤1000000):
 Calls Tryz.prog 40 #[.map (some b)] w fun e w'=>∃(v:Value) (ts:List Pr),e=.returned v∧ts.Perm (L.map (·.1))∧Rise ts∧RowPr 45 w.heap.size v ts w'∧Below w.heap.size w w':=by
 have b0:=bAl w (.cells #[.map (some b)] 75);have x0:=heap_alloc_new w (.cells #[.map (some b)] 75);have eg:∀args w,(callFunc 115 args).run Tryz.prog w=.ok (.enter 115 args) w:=enters_of Tryz.func115 (by kernel_rfl) rfl;have G:=keysR_gives 1 (by omega) w.heap.size b L (w.alloc (.cells #[.map (some b)] 75)) (by simp) (cLo x0 0) (M.below b0);have E:=sortedFunc_any _ _ eg _ L.length hl (w.alloc (.cells #[.map (some b)] 75)) (fun ss h=>⟨h.nodup_iff.2 M.nd,by have:=h.length_eq;simp at this;omega⟩) G;have K:=mapsKeys_any b w;have HB:Hid _:=b0;clear b0 x0 eg G M;go_enter Tryz.func40,Tryz.ntmps40
 go_wp2_with fail;go_fit K;rintro e w1 ⟨rfl,rfl⟩;go_wp2_with fail;go_fit E;rintro e w2 ⟨v,ss,ts,rfl,q1,q2,q3,q4,q5⟩;have HQ:=hY4 (q2.trans q1) q3 (own_mono q4 HB.out.size) (HB.out.trans (q5.mono HB.out.size));clear q1 q2 q3 q4 q5 E K;go_wp2;go_ret;exact⟨v,ts,rfl,HQ.out⟩
theorem waiting_any (g h q:Nat) (LH LW:List (Pr×Value)) (w:World) (B:BookAt w g h q LH LW) (hl:LW.length≤1000000):
 Calls Tryz.prog 11 #[.pointer (some ⟨g,0,none⟩)] w fun e w'=>∃(v:Value) (ts:List Pr),e=.returned v∧ts.Perm (LW.map (·.1))∧Rise ts∧RowPr 45 w.heap.size v ts w'∧Below w.heap.size w w':=by
 have E:=risingKeys_any q LW w B.wait hl;obtain⟨-,c0,-⟩:=cLs B.box;clear B;go_enter Tryz.func11,Tryz.ntmps11
 go_wp2_with fail;go_fit E;rintro e w2 ⟨v,ts,rfl,HQ⟩;have HH:Hid _:=HQ;clear HQ E;go_wp2;go_ret;exact⟨v,ts,rfl,HH.out⟩
end Go.Proofs.YtamhlgflbacjgaaGreat
namespace Go.Proofs.YtamhlgflbacjgaaGreat
open Go.RowKit Go.Maps
theorem sameB_self (v:V):sameB v v=true:=by simp[sameB]
theorem sameOp_any (o p:OpM) (u v:Value) (w:World) (hu:IsPairs w u o.preds) (hv:IsPairs w v p.preds):
 Calls Tryz.prog 72 #[opVal o u,opVal p v] w fun e w'=>(∃b:Bool,e=.returned (.bool b)∧(o=p→b=true))∧Below w.heap.size w w':=by
 have b0:=(bAl w (.cells (opCells o u).toArray 62)).alloc (by simp) (.cells (opCells p v).toArray 62);have EP:=equalD_any u v o.preds p.preds _ (hu.below b0) (hv.below b0);obtain⟨ua,uc,rfl,_⟩:=hu;obtain⟨va,vc,rfl,_⟩:=hv;have HB:Hid _:=b0;have E1:=eqD o.obj p.obj;have E2:=eqD o.elem p.elem;have E3:=eqV o.val p.val;obtain⟨s1,h1⟩:∃s:Bool,Hid (s=samePr o.obj p.obj):=⟨_,rfl⟩
 obtain⟨s2,h2⟩:∃s:Bool,Hid (s=samePr o.elem p.elem):=⟨_,rfl⟩
 obtain⟨s3,h3⟩:∃s:Bool,Hid (s=sameB o.val p.val):=⟨_,rfl⟩
 rw[←h1.out] at E1;rw[←h2.out] at E2;rw[←h3.out] at E3;have H1:Hid (o=p→s1=true):=fun e=>by rw[h1.out,e];exact(samePr_iff _ _).2 rfl
 have H2:Hid (o=p→s2=true):=fun e=>by rw[h2.out,e];exact(samePr_iff _ _).2 rfl
 have H3:Hid (o=p→s3=true):=fun e=>by rw[h3.out,e];exact sameB_self _
 have H4:Hid (o=p→o.kind=p.kind∧o.key=p.key∧o.ins=p.ins∧o.preds=p.preds):=fun e=>by rw[e];exact⟨rfl,rfl,rfl,rfl⟩
 unfold V.val at E3;simp only[opVal,opCells] at EP HB ⊢;clear b0 h1 h2 h3;obtain⟨ok,oo,oy,oe,oi,⟨wk,wn,wt,wo,wa⟩,op⟩:=o;obtain⟨pk,po,py,pe,pi,⟨xk,xn,xt,xo,xa⟩,pp⟩:=p;dsimp only at *;obtain⟨HO,hHO⟩:∃P:Prop,P=((OpM.mk ok oo oy oe oi ⟨wk,wn,wt,wo,wa⟩ op)=(OpM.mk pk po py pe pi ⟨xk,xn,xt,xo,xa⟩ pp)):=⟨_,rfl⟩
 rw[←hHO] at H1 H2 H3 H4 ⊢;clear hHO;by_cases c1:ok=pk
 ·subst c1;by_cases c2:s1=true
  ·subst c2;by_cases c3:oy.toList=py.toList
   ·have c3b:(oy.toList==py.toList)=true:=by simp[c3]
    clear c3;by_cases c4:s2=true
    ·subst c4;by_cases c5:oi=pi
     ·subst c5;by_cases c6:s3=true
      ·subst c6;go_enter Tryz.func72,Tryz.ntmps72
       go_wp2_with fail;go_fit EP;rintro e w1 ⟨⟨pb,rfl,hpb⟩,b1⟩;have HP:Hid (pb=true↔op=pp):=hpb;have HB1:Hid (Below w.heap.size w w1):=HB.out.trans (b1.mono HB.out.size);clear hpb b1 EP;go_wp2;go_ret;exact⟨⟨pb,rfl,fun h=>HP.out.2 (H4.out h).2.2.2⟩,HB1.out⟩
      ·obtain rfl:s3=false:=by simpa using c6
       go_enter Tryz.func72,Tryz.ntmps72
       go_wp2;go_ret;first | exact⟨⟨false,rfl,fun h=>absurd (H3.out h) (by simp)⟩,HB.out⟩ | exact⟨Or.inl ⟨rfl,fun h=>absurd (H3.out h) (by simp)⟩,HB.out⟩
     ·have c5b:(oi==pi)=false:=by simp[c5]
      go_enter Tryz.func72,Tryz.ntmps72
      go_wp2;go_ret;first | exact⟨⟨false,rfl,fun h=>absurd ((H4.out h).2.2.1) (c5)⟩,HB.out⟩ | exact⟨Or.inl ⟨rfl,fun h=>absurd ((H4.out h).2.2.1) (c5)⟩,HB.out⟩
    ·obtain rfl:s2=false:=by simpa using c4
     go_enter Tryz.func72,Tryz.ntmps72
     go_wp2;go_ret;first | exact⟨⟨false,rfl,fun h=>absurd (H2.out h) (by simp)⟩,HB.out⟩ | exact⟨Or.inl ⟨rfl,fun h=>absurd (H2.out h) (by simp)⟩,HB.out⟩
   ·have c3b:(oy.toList==py.toList)=false:=by simp[c3]
    go_enter Tryz.func72,Tryz.ntmps72
    go_wp2;go_ret;first | exact⟨⟨false,rfl,fun h=>absurd (congrArg ByteArray.toList (H4.out h).2.1) c3⟩,HB.out⟩ | exact⟨Or.inl ⟨rfl,fun h=>absurd (congrArg ByteArray.toList (H4.out h).2.1) c3⟩,HB.out⟩
  ·obtain rfl:s1=false:=by simpa using c2
   go_enter Tryz.func72,Tryz.ntmps72
   go_wp2;go_ret;first | exact⟨⟨false,rfl,fun h=>absurd (H1.out h) (by simp)⟩,HB.out⟩ | exact⟨Or.inl ⟨rfl,fun h=>absurd (H1.out h) (by simp)⟩,HB.out⟩
 ·have c1b:(ok==pk)=false:=by simp[c1]
  go_enter Tryz.func72,Tryz.ntmps72
  go_wp2;go_ret;first | exact⟨⟨false,rfl,fun h=>absurd ((H4.out h).1) (c1)⟩,HB.out⟩ | exact⟨Or.inl ⟨rfl,fun h=>absurd ((H4.out h).1) (c1)⟩,HB.out⟩
theorem equalF_any (v u:Value) (l m:List OV) (w:World) (hv:IsOps w v l) (hu:IsOps w u m):
 Calls Tryz.prog 71 #[v,u,.func (Fn.func 72) #[] #[]] w fun e w'=>(∃b:Bool,e=.returned (.bool b)∧(l.map (·.1)=m.map (·.1)→b=true))∧Below w.heap.size w w':=by
 have HVU:=hY2 hv hu;obtain⟨a,cap,rfl,h1,h2,hr,h3⟩:=hv;obtain⟨c,cap2,rfl,k1,k2,kr,k3⟩:=hu;have HA:=hY2 h3 k3;have HR:=hY2 hr kr;have HZ:Hid (l.length≤1099511627776):=h2;clear h1 h2 hr h3 k1 k2 kr k3 HVU;by_cases hlen:l.length=m.length
 ·have HL:Hid (l.length=m.length):=hlen;rw[←hlen];clear hlen;go_enter Tryz.func71,Tryz.ntmps71
  go_wp2_with fail;go_loopw [17] (fun i wr=>∃k:Nat,k≤l.length∧i=.int .i64 k∧Below w.heap.size w wr) (fun i _=>l.length - (RowKit.intOf i).toNat)
  case atStart=>exact⟨0,Nat.zero_le _,rfl,Below.refl _ _⟩
  case round=>
   obtain⟨k,hk,rfl,hbel⟩:=hrel;by_cases hlt:k<l.length
   ·have hlm:k<m.length:=by have:=HL.out;omega
    obtain⟨b,off,rfl,h4,h5⟩:=HA.out.1 (fun e=>by rw[e] at hlt;simp at hlt);obtain⟨b2,off2,rfl,k4,k5⟩:=HA.out.2 (fun e=>by rw[e] at hlm;simp at hlm);obtain⟨x,hx⟩:=gNz (l[k]:OV);obtain⟨y,hy⟩:=gNz (m[k]:OV);have hc:∀j,j<13→wr.cell? ⟨b,off+k*13+j,none⟩=(opCells x.1 x.2)[j]?:=fun j hj=>by rw[hbel.cell (p:=⟨b,off+k*13+j,none⟩) h4,←hx];exact h5 k hlt j hj
    have hd:∀j,j<13→wr.cell? ⟨b2,off2+k*13+j,none⟩=(opCells y.1 y.2)[j]?:=fun j hj=>by rw[hbel.cell (p:=⟨b2,off2+k*13+j,none⟩) k4,←hy];exact k5 k hlm j hj
    obtain⟨⟨ok,oo,oy,oe,oi,⟨wk,wn,wt,wo,wa⟩,op⟩,xv⟩:=x;obtain⟨⟨pk,po,py,pe,pi,⟨xk,xn,xt,xo,xa⟩,pp⟩,yv⟩:=y;have ix:=(HR.out.1 _ (List.getElem_mem hlt)).1;have iy:=(HR.out.2 _ (List.getElem_mem hlm)).1;rw[hx] at ix;rw[hy] at iy;dsimp only at ix iy hc hd;have HIX:=hY2 ix iy;obtain⟨xa1,xc1,rfl,_⟩:=ix;obtain⟨ya1,yc1,rfl,_⟩:=iy;have a0:wr.cell? ⟨b,off+k*13,none⟩=some (.int .i64 ok):=hc 0 (by omega);have a1:wr.cell? ⟨b,off+k*13+1,none⟩=some (.int .i64 oo.1):=hc 1 (by omega);have a2:wr.cell? ⟨b,off+k*13+2,none⟩=some (.int .i64 oo.2):=hc 2 (by omega);have a3:wr.cell? ⟨b,off+k*13+3,none⟩=some (.string oy):=hc 3 (by omega);have a4:wr.cell? ⟨b,off+k*13+4,none⟩=some (.int .i64 oe.1):=hc 4 (by omega);have a5:wr.cell? ⟨b,off+k*13+5,none⟩=some (.int .i64 oe.2):=hc 5 (by omega);have a6:wr.cell? ⟨b,off+k*13+6,none⟩=some (.bool oi):=hc 6 (by omega);have a7:wr.cell? ⟨b,off+k*13+7,none⟩=some (.int .i64 wk):=hc 7 (by omega);have a8:wr.cell? ⟨b,off+k*13+8,none⟩=some (.int .i64 wn):=hc 8 (by omega);have a9:wr.cell? ⟨b,off+k*13+9,none⟩=some (.string wt):=hc 9 (by omega);have a10:wr.cell? ⟨b,off+k*13+10,none⟩=some (.int .i64 wo):=hc 10 (by omega);have a11:wr.cell? ⟨b,off+k*13+11,none⟩=some (.int .i64 wa):=hc 11 (by omega);have a12:wr.cell? ⟨b,off+k*13+12,none⟩=some (.slice xa1 op.length xc1):=hc 12 (by omega);have e0:wr.cell? ⟨b2,off2+k*13,none⟩=some (.int .i64 pk):=hd 0 (by omega);have e1:wr.cell? ⟨b2,off2+k*13+1,none⟩=some (.int .i64 po.1):=hd 1 (by omega);have e2:wr.cell? ⟨b2,off2+k*13+2,none⟩=some (.int .i64 po.2):=hd 2 (by omega);have e3:wr.cell? ⟨b2,off2+k*13+3,none⟩=some (.string py):=hd 3 (by omega);have e4:wr.cell? ⟨b2,off2+k*13+4,none⟩=some (.int .i64 pe.1):=hd 4 (by omega);have e5:wr.cell? ⟨b2,off2+k*13+5,none⟩=some (.int .i64 pe.2):=hd 5 (by omega);have e6:wr.cell? ⟨b2,off2+k*13+6,none⟩=some (.bool pi):=hd 6 (by omega);have e7:wr.cell? ⟨b2,off2+k*13+7,none⟩=some (.int .i64 xk):=hd 7 (by omega);have e8:wr.cell? ⟨b2,off2+k*13+8,none⟩=some (.int .i64 xn):=hd 8 (by omega);have e9:wr.cell? ⟨b2,off2+k*13+9,none⟩=some (.string xt):=hd 9 (by omega);have e10:wr.cell? ⟨b2,off2+k*13+10,none⟩=some (.int .i64 xo):=hd 10 (by omega);have e11:wr.cell? ⟨b2,off2+k*13+11,none⟩=some (.int .i64 xa):=hd 11 (by omega);have e12:wr.cell? ⟨b2,off2+k*13+12,none⟩=some (.slice ya1 pp.length yc1):=hd 12 (by omega);have g1:(k:Int)<l.length:=by omega
    have g2:(k:Int)<1099511627776:=by have:=HZ.out;omega
    have gm:(k:Int)<m.length:=by omega
    have hbz:=hbel.size;have hbb:b<wr.heap.size:=by omega
    have hbb2:b2<wr.heap.size:=by omega
    have HK:Hid (k<l.length∧∀h:l.map (·.1)=m.map (·.1),(OpM.mk ok oo oy oe oi ⟨wk,wn,wt,wo,wa⟩ op)=(OpM.mk pk po py pe pi ⟨xk,xn,xt,xo,xa⟩ pp)):=⟨hlt,fun h=>by
     have h8:(l.map (·.1))[k]?=(m.map (·.1))[k]?:=by rw[h]
     rw[List.getElem?_map,List.getElem?_map,List.getElem?_eq_getElem hlt,List.getElem?_eq_getElem hlm,hx,hy] at h8;simpa using h8⟩
    have HB:Hid (Below w.heap.size w wr):=hbel;have b1:=(hbel.alloc hbz (.cells (opCells (OpM.mk ok oo oy oe oi ⟨wk,wn,wt,wo,wa⟩ op) (.slice xa1 op.length xc1)).toArray 62)).alloc (by simp;omega) (.cells (opCells (OpM.mk pk po py pe pi ⟨xk,xn,xt,xo,xa⟩ pp) (.slice ya1 pp.length yc1)).toArray 62);have HB2:Hid _:=b1;have E:=sameOp_any (OpM.mk ok oo oy oe oi ⟨wk,wn,wt,wo,wa⟩ op) (OpM.mk pk po py pe pi ⟨xk,xn,xt,xo,xa⟩ pp) (.slice xa1 op.length xc1) (.slice ya1 pp.length yc1) _ (HIX.out.1.below b1) (HIX.out.2.below b1);obtain⟨EQ,HEQ⟩:∃P:Prop,Hid (P=((OpM.mk ok oo oy oe oi ⟨wk,wn,wt,wo,wa⟩ op)=(OpM.mk pk po py pe pi ⟨xk,xn,xt,xo,xa⟩ pp))):=⟨_,rfl⟩
    rw[←HEQ.out] at E HK;simp only[opVal,opCells] at E HB2;clear h5 k5 hk hbel hlt hlm hx hy hc hd b1 hbz HEQ;go_wp2_with fail;go_fit E;rintro e w1 ⟨⟨pb,rfl,hpb⟩,b2⟩;have HPB:Hid (EQ→pb=true):=hpb;have HB3:Hid (Below w.heap.size w w1):=HB2.out.trans (b2.mono HB2.out.size);clear hpb b2 E;cases pb with
    | true=>
     go_wp2;go_roundw
     case rel=>exact⟨k+1,HK.out.1,by go_num,HB3.out⟩
     case measure=>simp[RowKit.intOf];have:=HK.out.1;omega
    | false=>
     go_wp2;go_ret;have hn:¬l.map (·.1)=m.map (·.1):=fun h=>by cases HPB.out (HK.out.2 h)
     first | exact⟨⟨false,rfl,fun h=>absurd h hn⟩,HB3.out⟩ | exact⟨Or.inl ⟨rfl,hn⟩,HB3.out⟩
   ·have hke:k=l.length:=by omega
    have HB:Hid (Below w.heap.size w wr):=hbel;clear hlt hk hbel;subst hke;go_wp2;go_ret;first | exact⟨⟨true,rfl,fun _=>rfl⟩,HB.out⟩ | exact⟨Or.inr rfl,HB.out⟩
 ·have g1:¬(l.length:Int)=m.length:=by omega
  have g2:((l.length:Int)==m.length)=false:=by simp;omega
  have HL:Hid (¬l.length=m.length):=hlen;clear hlen;go_enter Tryz.func71,Tryz.ntmps71
  go_wp2;go_ret;have hn:¬l.map (·.1)=m.map (·.1):=fun e=>HL.out (by have:=congrArg List.length e;simpa using this);first | exact⟨⟨false,rfl,fun h=>absurd h hn⟩,Below.refl _ _⟩ | exact⟨Or.inl ⟨rfl,hn⟩,Below.refl _ _⟩
theorem clash_any (v u:Value) (c d:Chg) (w:World) (hv:IsChg w v c) (hu:IsChg w u d):
 Calls Tryz.prog 32 #[v,u] w fun e w'=>(∃b:Bool,e=.returned (if b then .nilIface else .iface 82 (.int .i64 8))∧(c=d→b=true))∧Below w.heap.size w w':=by
 obtain⟨vd,vo,l,rfl,_,_,_,hd,ho,hl⟩:=hv;obtain⟨ud,uo,m,rfl,_,_,_,kd,ko,km⟩:=hu;have H4:Hid (c=d→c.start=d.start∧c.deps=d.deps∧l.map (·.1)=m.map (·.1)):=fun e=>⟨by rw[e],by rw[e],by rw[hl,km,e]⟩
 have b0:=(bAl w (.cells #[.int .i64 c.actor,.int .i64 c.seq,.int .i64 c.start,vd,vo] 33)).alloc (by simp) (.cells #[.int .i64 d.actor,.int .i64 d.seq,.int .i64 d.start,ud,uo] 33);have E1:=equalR_any vd ud c.deps d.deps _ (hd.below b0) (kd.below b0);have HO:=hY2 ho ko;obtain⟨da,dc,rfl,_⟩:=hd;obtain⟨oa,oc,rfl,_⟩:=ho;obtain⟨da2,dc2,rfl,_⟩:=kd;obtain⟨oa2,oc2,rfl,_⟩:=ko;have HB:Hid _:=b0;obtain⟨EQ,HEQ⟩:∃P:Prop,Hid (P=(c=d)):=⟨_,rfl⟩
 rw[←HEQ.out] at H4 ⊢;obtain⟨ca,cs,ct,cd,co⟩:=c;obtain⟨ea,es,et,ed,eo⟩:=d;dsimp only at *;clear hl km HEQ b0;by_cases c1:ct=et
 ·subst c1;go_enter Tryz.func32,Tryz.ntmps32
  go_wp2_with fail;go_fit E1;rintro e w1 ⟨⟨pb,rfl,hpb⟩,b1⟩;have HP:Hid (pb=true↔cd=ed):=hpb;have B1:=HB.out.trans (b1.mono HB.out.size);have HB1:Hid (Below w.heap.size w w1):=B1;have E2:=equalF_any (.slice oa l.length oc) (.slice oa2 m.length oc2) l m w1 (HO.out.1.below B1) (HO.out.2.below B1);have hk1:=(heap_alloc_old (heap_alloc_new w (.cells #[.int .i64 ca,.int .i64 cs,.int .i64 ct,.slice da cd.length dc,.slice oa l.length oc] 33)) (.cells #[.int .i64 ea,.int .i64 es,.int .i64 ct,.slice da2 ed.length dc2,.slice oa2 m.length oc2] 33))
  have x1:=(Kp.of (S:=[]) b1).heap hk1 (by simp);have hk2:=heap_alloc_new (w.alloc (.cells #[.int .i64 ca,.int .i64 cs,.int .i64 ct,.slice da cd.length dc,.slice oa l.length oc] 33)) (.cells #[.int .i64 ea,.int .i64 es,.int .i64 ct,.slice da2 ed.length dc2,.slice oa2 m.length oc2] 33);have x2:=(Kp.of (S:=[]) b1).heap hk2 (by simp);rw[show(w.alloc (.cells #[.int .i64 ca,.int .i64 cs,.int .i64 ct,.slice da cd.length dc,.slice oa l.length oc] 33)).heap.size=w.heap.size+1 from by simp] at x2;obtain⟨-,-,-,-,y1,-⟩:=cLs x1;obtain⟨-,-,-,-,y2,-⟩:=cLs x2;have z1:=lt_of_heap x1;have z2:=lt_of_heap x2;clear hpb b1 B1 E1 hk1 hk2 x1 x2;cases pb with
  | false=>
   go_wp2;go_ret;have hn:¬EQ:=fun h=>by cases HP.out.2 (H4.out h).2.1
   first | exact⟨⟨false,rfl,fun h=>absurd h hn⟩,HB1.out⟩ | exact⟨Or.inl ⟨rfl,hn⟩,HB1.out⟩
  | true=>
   go_wp2_with fail;go_fit E2;rintro e w2 ⟨⟨qb,rfl,hqb⟩,b2⟩;have HQ:Hid (l.map (·.1)=m.map (·.1)→qb=true):=hqb;have HB2:Hid (Below w.heap.size w w2):=HB1.out.trans (b2.mono HB1.out.size);clear hqb b2 E2;cases qb with
   | false=>
    go_wp2;go_ret;have hn:¬EQ:=fun h=>by cases HQ.out (H4.out h).2.2
    first | exact⟨⟨false,rfl,fun h=>absurd h hn⟩,HB2.out⟩ | exact⟨Or.inl ⟨rfl,hn⟩,HB2.out⟩
   | true=>
    go_wp2;go_ret;first | exact⟨⟨true,rfl,fun _=>rfl⟩,HB2.out⟩ | exact⟨Or.inr rfl,HB2.out⟩
 ·have c1b:(ct==et)=false:=by simp[c1]
  go_enter Tryz.func32,Tryz.ntmps32
  go_wp2;go_ret;have hn:¬EQ:=fun h=>c1 (H4.out h).1;first | exact⟨⟨false,rfl,fun h=>absurd h hn⟩,HB.out⟩ | exact⟨Or.inl ⟨rfl,hn⟩,HB.out⟩
theorem pair_cells {W:World} {a:Option Addr} {n c:Nat} {l:List Pr} (hv:IsPairs W (.slice a n c) l) {ad:Addr} (ha:a=some ad):n=l.length∧∀j u,(pcells l)[j]?=some u→W.cell? (ad.add j)=some u:=by
 obtain⟨a',c',e,h1,h2,hr,h3⟩:=hv;have e1:=Value.slice.inj e;refine⟨e1.2.1,fun j u hj=>?_⟩;have hjl:j<l.length*2:=by
  rcases Nat.lt_or_ge j (l.length*2) with h | h
  ·exact h
  ·rw[List.getElem?_eq_none (by rw[pcells_len];exact h)] at hj;cases hj
 have hne:l≠[]:=fun e=>by rw[e] at hjl;simp at hjl
 obtain⟨b,off,e2,h4,h5⟩:=h3 hne;have e3:ad=⟨b,off,none⟩:=Option.some.inj (ha.symm.trans (e1.1.trans e2));subst e3;have ea:(⟨b,off,none⟩:Addr).add j=⟨b,off+j,none⟩:=by unfold Addr.add;split <;> simp_all
 rw[ea];obtain⟨i,hi⟩:∃i,j=i*2∨j=i*2+1:=⟨j / 2,by omega⟩
 rcases hi with rfl | rfl
 ·have hil:i<l.length:=by omega
  rw[(pcells_at l i hil).1] at hj;rw[(h5 i hil).1];exact hj
 ·have hil:i<l.length:=by omega
  rw[(pcells_at l i hil).2] at hj;rw[←Nat.add_assoc,(h5 i hil).2];exact hj
theorem pair_one (l:List Pr):∀u∈pcells l,u.oneCell'=true:=by
 intro u hu;unfold pcells at hu;obtain⟨q,_,hq⟩:=List.mem_flatMap.1 hu;simp at hq;rcases hq with rfl | rfl <;> rfl
theorem run_copy {T E:TypeId} (ht:Tryz.prog.underlying T=some (.slice E)) (hi:(Tryz.prog.info? E).map (fun i=>(i.zero,i.size,i.bytes))=some (some (.agg #[.int .i64 0,.int .i64 0]),2,16)) (ty:TypeId) (W:World) (B:Nat) (hB:B≤W.heap.size) (v:Value) (l:List Pr) (hv:IsPairs W v l) (hw:Wh v) (hl:l.length≤1000000):
 ∃u W',(Builtin.append_ #[T,T] ty #[.slice none 0 0,v]).run Tryz.prog W=.ok u W'∧RowPr E B u l W'∧Below W.heap.size W W':=by
 obtain⟨i0,hi0,hz0,hz1,hz2⟩:=info_parts hi;rcases hw with rfl | ⟨ad,n,c,rfl⟩
 ·have hl0:l=[]:=by
   obtain⟨a',c',e,_⟩:=hv;exact List.length_eq_zero_iff.1 (Value.slice.inj e).2.1.symm
  subst hl0;refine⟨.slice none 0 0,W,run_append_owned_none (P:=Tryz.prog) (w:=W) B T ty E i0 2 ht hi0 (.slice none 0 0) 0 [] (World.ownsRow_nil W B E 2),World.ownsRow_nil W B E 2,Below.refl _ _⟩
 ·obtain⟨hn,hc⟩:=pair_cells hv rfl;subst hn;obtain⟨u,W',h1,h2,h3,_⟩:=run_append_own (P:=Tryz.prog) W B T ty E i0 (.agg #[.int .i64 0,.int .i64 0]) 2 16 ht hi0 hz0 hz1 hz2 rfl (by decide) (.slice none 0 0) 0 [] (World.ownsRow_nil W B E 2) ad l.length c (pcells l) (pcells_len l) hc (pair_one l) (by unfold maxLen;omega) (by omega) hB;refine⟨u,W',h1,?_,⟨h3.os,h3.tape,h3.output,h3.size,fun k hk=>h3.block k hk (by simp[Value.ownBlock])⟩⟩;simpa using h2
theorem op_cells {W:World} {a:Option Addr} {n c:Nat} {l:List OV} (hv:IsOps W (.slice a n c) l) {ad:Addr} (ha:a=some ad):n=l.length∧∀j u,(ocells l)[j]?=some u→W.cell? (ad.add j)=some u:=by
 obtain⟨a',c',e,h1,h2,hr,h3⟩:=hv;have e1:=Value.slice.inj e;refine⟨e1.2.1,fun j u hj=>?_⟩;have hjl:j<l.length*13:=by
  rcases Nat.lt_or_ge j (l.length*13) with h | h
  ·exact h
  ·rw[List.getElem?_eq_none (by rw[ocells_len];exact h)] at hj;cases hj
 have hne:l≠[]:=fun e=>by rw[e] at hjl;simp at hjl
 obtain⟨b,off,e2,h4,h5⟩:=h3 hne;have e3:ad=⟨b,off,none⟩:=Option.some.inj (ha.symm.trans (e1.1.trans e2));subst e3;have ea:(⟨b,off,none⟩:Addr).add j=⟨b,off+j,none⟩:=by unfold Addr.add;split <;> simp_all
 rw[ea];obtain⟨i,k,rfl,hk⟩:∃i k,j=i*13+k∧k<13:=⟨j / 13,j % 13,by omega,by omega⟩
 have hil:i<l.length:=by omega
 rw[ocells_at l i hil k hk] at hj;rw[←Nat.add_assoc,h5 i hil k hk];exact hj
theorem ops_one {W:World} {v:Value} {l:List OV} (hv:IsOps W v l):∀u∈ocells l,u.oneCell'=true:=by
 obtain⟨a',c',e,h1,h2,hr,h3⟩:=hv;intro u hu;unfold ocells at hu;obtain⟨q,hq,hu⟩:=List.mem_flatMap.1 hu;obtain⟨⟨pa,pc,pe,_⟩,_⟩:=hr q hq;unfold opCells at hu;rw[pe] at hu;simp at hu;rcases hu with rfl | rfl | rfl | rfl | rfl | rfl | rfl | rfl | rfl | rfl | rfl | rfl | rfl <;> rfl
theorem run_copyO (ty:TypeId) (W:World) (B:Nat) (hB:B≤W.heap.size) (v:Value) (l:List OV) (hv:IsOps W v l) (hw:Wh v) (hl:l.length≤1000000):
 ∃u W',(Builtin.append_ #[31,31] ty #[.slice none 0 0,v]).run Tryz.prog W=.ok u W'∧RowO B u l W'∧Below W.heap.size W W':=by
 obtain⟨i0,hi0,hz0,hz1,hz2⟩:=info_parts infoO;have h1c:=ops_one hv;rcases hw with rfl | ⟨ad,n,c,rfl⟩
 ·have hl0:l=[]:=by
   obtain⟨a',c',e,_⟩:=hv;exact List.length_eq_zero_iff.1 (Value.slice.inj e).2.1.symm
  subst hl0;exact⟨.slice none 0 0,W,run_append_owned_none (P:=Tryz.prog) (w:=W) B 31 ty 62 i0 13 Tryz.underlying31 hi0 (.slice none 0 0) 0 [] (World.ownsRow_nil W B 62 13),World.ownsRow_nil W B 62 13,Below.refl _ _⟩
 ·obtain⟨hn,hc⟩:=op_cells hv rfl;subst hn;obtain⟨u,W',h1,h2,h3,_⟩:=run_append_own (P:=Tryz.prog) W B 31 ty 62 i0 _ 13 _ Tryz.underlying31 hi0 hz0 hz1 hz2 rfl (by decide) (.slice none 0 0) 0 [] (World.ownsRow_nil W B 62 13) ad l.length c (ocells l) (ocells_len l) hc h1c (by unfold maxLen;omega) (by omega) hB;refine⟨u,W',h1,?_,⟨h3.os,h3.tape,h3.output,h3.size,fun k hk=>h3.block k hk (by simp[Value.ownBlock])⟩⟩;simpa using h2
theorem wp_append {w:World} {ops:Array Oper} {rest:List Oper} {o:Oper} {a:Act} {Q:Exit→Act→World→Prop} (hgd:o.guard=none) (s x:Operand) (T:TypeId)
 (ho:o.op=.call {callee:=.builtin .append,args:=#[s,x],argTypes:=#[T,T]}) (v u r:Value) (w':World) (hs:a.eval s=v) (hx:a.eval x=u)
 (hrun:(Builtin.append_ #[T,T] o.type #[v,u]).run Tryz.prog w=.ok r w') (h:wpList Tryz.prog ops Q rest (a.put o.dst r) w'):wpList Tryz.prog ops Q (o::rest) a w:=by
 refine wpList_plain hgd fun K hK=>?_;unfold Oper.wp;simp[execOp,ho,resolve,invoke,builtin,hs,hx,hrun,Result.andThen];exact hK _ _ h
theorem ocells_set (l:List OV) (k:Nat) (hk:k<l.length) (nv:Value):ocells (l.set k (l[k].1,nv))=(ocells l).set (k*13+12) nv:=by
 refine List.ext_getElem? fun j=>?_;rcases Nat.lt_or_ge j (l.length*13) with hj | hj
 ·obtain⟨i,r,rfl,hr⟩:∃i r,j=i*13+r∧r<13:=⟨j / 13,j % 13,by omega,by omega⟩
  have hi:i<l.length:=by omega
  rw[ocells_at _ i (by simpa using hi) r hr,List.getElem?_set];by_cases hik:i=k
  ·subst hik;by_cases hr2:r=12
   ·subst hr2;rw[if_pos rfl,if_pos (by rw[ocells_len];omega)];simp[opCells]
   ·rw[if_neg (by omega),ocells_at l i hi r hr];simp only[List.getElem_set_self];unfold opCells;obtain rfl | rfl | rfl | rfl | rfl | rfl | rfl | rfl | rfl | rfl | rfl | rfl:r=0∨r=1∨r=2∨r=3∨r=4∨r=5∨r=6∨r=7∨r=8∨r=9∨r=10∨r=11:=by omega
    all_goals rfl
  ·rw[if_neg (by omega),ocells_at l i hi r hr];rw[List.getElem_set_ne (fun e=>hik e.symm)]
 ·rw[List.getElem?_eq_none (by rw[ocells_len,List.length_set];exact hj),List.getElem?_eq_none (by rw[List.length_set,ocells_len];exact hj)]
theorem rowO_set {B g cap:Nat} {w:World} {l:List OV} (h:RowO B (.slice (some ⟨g,0,none⟩) l.length cap) l w) (k:Nat) (hk:k<l.length) (nv:Value):RowO B (.slice (some ⟨g,0,none⟩) l.length cap) (l.set k (l[k].1,nv)) (w.setCell ⟨g,k*13+12,none⟩ nv):=by
 have hn:(l.set k (l[k].1,nv)).length=l.length:=by simp
 unfold RowO;rw[hn,ocells_set l k hk nv];refine⟨by rw[List.length_set,ocells_len],?_⟩;rcases h.2 with⟨e,h0⟩ | ⟨g',cap',cur,e,hg,hh,hc,hm,hz,ht⟩
 ·omega
 ·have e1:=Value.slice.inj e;have e2:g=g':=by have:=Option.some.inj e1.1;simpa using this
  subst e2;have e3:=e1.2.2;subst e3;refine Or.inr ⟨g,cap,cur.setIfInBounds (k*13+12) nv,rfl,hg,set_at hh _ _,hc,hm,by simpa using hz,?_⟩;rw[Array.toList_setIfInBounds,List.take_set,ht]
theorem rowO_form {B:Nat} {w:World} {v:Value} {l:List OV} (h:RowO B v l w) (hl:l≠[]):∃g cap,v=.slice (some ⟨g,0,none⟩) l.length cap∧B≤g∧g<w.heap.size∧l.length≤cap∧(∀j,w.frozen? ⟨g,j,none⟩=false)∧(∃cur,w.heap[g]?=some (.cells cur 62))∧∀i (hi:i<l.length) j,j<13→w.cell? ⟨g,i*13+j,none⟩=(opCells l[i].1 l[i].2)[j]?:=by
 rcases h.2 with⟨rfl,h0⟩ | ⟨g,cap,cur,rfl,hg,hh,hc,hm,hz,ht⟩
 ·exact absurd (List.length_eq_zero_iff.1 h0) hl
 ·exact⟨g,cap,rfl,hg,lt_of_heap hh,hc,fRz hh,⟨cur,hh⟩,fun i hi j hj=>by rw[h.cellAt (i*13+j) (by omega),ocells_at l i hi j hj]⟩
end Go.Proofs.YtamhlgflbacjgaaGreat
