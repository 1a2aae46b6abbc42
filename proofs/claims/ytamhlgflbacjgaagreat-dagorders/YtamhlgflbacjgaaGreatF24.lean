/-
  What is proved: as each theorem says.
  Conditions: as each theorem says.
-/
import Derived.Test.YtamhlgflbacjgaaGreatF00
import Derived.Test.YtamhlgflbacjgaaGreatF12
import Derived.Deep.CutRange
import Derived.Deep.LoopGhost
import Derived.Deep.RegionHeld3
import Derived.Deep.RegionLaw
import Derived.Test.YtamhlgflbacjgaaGreatF19
import Derived.Test.YtamhlgflbacjgaaGreatF23
import Derived.Maps.AppendAt
set_option maxRecDepth 100000
set_option maxHeartbeats 16000000
namespace Go.Proofs.YtamhlgflbacjgaaGreat
open Go.RowKit Go.Maps
def IsChgH (B:Nat) (w:World) (v:Value) (c:Chg):Prop:=
 ∃ud uo l,v=.agg #[.int .i64 c.actor,.int .i64 c.seq,.int .i64 c.start,ud,uo]∧(I64 c.actor∧I64 c.seq∧I64 c.start)∧RowPr 45 B ud c.deps w∧RowO B uo l w∧l.map (·.1)=c.ops∧(∀q∈l,RowPr 49 B q.2 q.1.preds w)∧
  (c.deps.length≤8796093022208∧(∀d∈c.deps,R64 d))∧l.length≤1099511627776∧∀q∈l,OpNums q.1∧q.1.preds.length≤8796093022208∧∀d∈q.1.preds,R64 d
theorem IsChgH.chgW {B:Nat} {w:World} {v:Value} {c:Chg} (h:IsChgH B w v c):IsChgW w v c:=by
 obtain⟨ud,uo,l,h1,h2,h3,h4,h5,h6,h7,h8,h9⟩:=h;exact⟨ud,uo,l,h1,h2,RowPr.pairs h3 h7.1 h7.2,RowO.ops h4 h8 (fun q hq=>⟨RowPr.pairs (h6 q hq) (h9 q hq).2.1 (h9 q hq).2.2,(h9 q hq).1⟩),h5,Wh.of_own h3,Wh.of_own h4,fun q hq=>Wh.of_own (h6 q hq)⟩
theorem IsChgH.rows {B:Nat} {w w':World} {v:Value} {c:Chg} (h:IsChgH B w v c) (k:∀T s v n xs,(T=45∨T=62∨T=49)→w.ownsRow B T s v n xs→w'.ownsRow B T s v n xs):IsChgH B w' v c:=by
 obtain⟨ud,uo,l,h1,h2,h3,h4,h5,h6,h7⟩:=h;exact⟨ud,uo,l,h1,h2,k _ _ _ _ _ (Or.inl rfl) h3,k _ _ _ _ _ (Or.inr (Or.inl rfl)) h4,h5,fun q hq=>k _ _ _ _ _ (Or.inr (Or.inr rfl)) (h6 q hq),h7⟩
theorem IsChgH.mono {B C:Nat} {w:World} {v:Value} {c:Chg} (h:IsChgH B w v c) (hC:C≤B):IsChgH C w v c:=by
 obtain⟨ud,uo,l,h1,h2,h3,h4,h5,h6,h7⟩:=h;exact⟨ud,uo,l,h1,h2,own_mono h3 hC,own_mono h4 hC,h5,fun q hq=>own_mono (h6 q hq) hC,h7⟩
theorem IsChgH.below {B:Nat} {w w':World} {v:Value} {c:Chg} (h:IsChgH B w v c) (hb:Below w.heap.size w w'):IsChgH B w' v c:=h.rows fun _ _ _ _ _ _ r=>own_below r hb lRf
theorem IsChgH.grown {B b:Nat} {w w':World} {v:Value} {c:Chg} (h:IsChgH B w v c) (hg:w.grownBy w' (some b)) (hb:b<B∨∃o,w.heap[b]?=some o∧∀cur T,(T=45∨T=62∨T=49)→o≠.cells cur T (0,0)):IsChgH B w' v c:=h.rows fun T s v n xs hT r=>by
 refine r.kept hg ?_;rcases hb with hb | ⟨o,ho,hno⟩
 ·refine Or.inr fun e=>?_;have:=(r.lt b e).1;omega
 ·rcases r.2 with⟨e,_⟩ | ⟨g,cap,cur,e,_,hgb,_⟩
  ·left;rw[e];rfl
  ·refine Or.inr fun e'=>?_;have:g=b:=by rw[e] at e';simpa [Value.ownBlock] using e'
   subst this;rw[hgb] at ho;exact hno cur T hT (Option.some.inj ho).symm
structure Cpx (w:World) (c:Chg) (l li:List OV) (xa:Option Addr) (xc:Nat) (ya:Option Addr) (yc:Nat) (kk:Nat) (wr:World):Prop where
 x:wr.heap[w.heap.size]?=some (.cells #[.int .i64 c.actor,.int .i64 c.seq,.int .i64 c.start,.slice xa c.deps.length xc,.slice ya l.length yc] 33)
 y:wr.heap[w.heap.size+1]?=some (.cells #[.int .i64 0,.int .i64 0,.int .i64 0,.slice none 0 0,.slice none 0 0] 33)
 row:RowO (w.heap.size+2) (.slice ya l.length yc) li wr
 dep:RowPr 45 (w.heap.size+2) (.slice xa c.deps.length xc) c.deps wr
 ops:li.map (·.1)=l.map (·.1)
 pr:∀q∈li,(IsPairs w q.2 q.1.preds∧Wh q.2)∨RowPr 49 (w.heap.size+2) q.2 q.1.preds wr
 pk:∀j (hj:j<li.length),j<kk→RowPr 49 (w.heap.size+2) li[j].2 li[j].1.preds wr
 bel:Below w.heap.size w wr
 z:w.heap.size+2≤wr.heap.size
theorem Cpx.len {w:World} {c:Chg} {l li:List OV} {xa:Option Addr} {xc:Nat} {ya:Option Addr} {yc:Nat} {kk:Nat} {wr:World} (h:Cpx w c l li xa xc ya yc kk wr):li.length=l.length:=by
 have:=congrArg List.length h.ops;simpa using this
theorem Cpx.grow {w:World} {c:Chg} {l li:List OV} {xa:Option Addr} {xc:Nat} {ya:Option Addr} {yc:Nat} {kk:Nat} {wr V:World} (h:Cpx w c l li xa xc ya yc kk wr) (hb:Below wr.heap.size wr V):Cpx w c l li xa xc ya yc kk V:=
 ⟨heap_below h.x hb lRf,heap_below h.y hb lRf,own_below h.row hb lRf,own_below h.dep hb lRf,h.ops,fun q hq=>(h.pr q hq).imp id (fun r=>own_below r hb lRf),fun j hj hk=>own_below (h.pk j hj hk) hb lRf,h.bel.trans (hb.mono (by have:=h.z;omega)),by have:=hb.size;have:=h.z;omega⟩
theorem Cpx.put {w:World} {c:Chg} {l li:List OV} {xa:Option Addr} {xc:Nat} {g yc:Nat} {V:World} (k:Nat) (h:Cpx w c l li xa xc (some ⟨g,0,none⟩) yc k V) (hk:k<li.length) (nv:Value) (hn:RowPr 49 (w.heap.size+2) nv li[k].1.preds V) {cur:Array Value} (hg:w.heap.size+2≤g) (hh:V.heap[g]?=some (.cells cur 62)):
 Cpx w c l (li.set k (li[k].1,nv)) xa xc (some ⟨g,0,none⟩) yc (k+1) (V.setCell ⟨g,k*13+12,none⟩ nv):=by
 refine⟨heap_set_other h.x (by omega),heap_set_other h.y (by omega),?_,own_set_other h.dep hh (by decide),?_,fun q hq=>?_,fun j hj hjk=>?_,h.bel.setCell (p:=⟨g,k*13+12,none⟩) (show w.heap.size≤g by omega) nv,?_⟩
 ·have h5:=rowO_set (l:=li) (cap:=yc) (g:=g) (B:=w.heap.size+2) (w:=V) (by rw[h.len];exact h.row) k hk nv;rw[h.len] at h5;exact h5
 ·rw[←h.ops];refine List.ext_getElem (by simp) fun i h1 h2=>?_;simp only[List.getElem_map,List.getElem_set];split
  ·rename_i e;subst e;rfl
  ·rfl
 ·rcases List.mem_or_eq_of_mem_set hq with h5 | rfl
  ·exact(h.pr q h5).imp id (fun r=>own_set_other r hh (by decide))
  ·exact Or.inr (own_set_other hn hh (by decide))
 ·rw[List.length_set] at hj;by_cases e:j=k
  ·subst e;simp only[List.getElem_set_self];exact own_set_other hn hh (by decide)
  ·rw[List.getElem_set_ne (fun e2=>e e2.symm)];exact own_set_other (h.pk j hj (by omega)) hh (by decide)
 ·have:=((Below.refl w.heap.size V).setCell (p:=⟨g,k*13+12,none⟩) (show w.heap.size≤g by omega) nv).size;have:=h.z;omega
theorem Cpx.prs {w:World} {c:Chg} {l li:List OV} {xa:Option Addr} {xc:Nat} {ya:Option Addr} {yc:Nat} {kk:Nat} {wr:World} (h:Cpx w c l li xa xc ya yc kk wr) {vo:Value} (ho:IsOps w vo l) (hl:l.map (·.1)=c.ops) (hp:∀o∈c.ops,o.preds.length≤1000000):
 ∀q∈li,IsPairs wr q.2 q.1.preds∧Wh q.2∧q.1.preds.length≤1000000:=by
 obtain⟨_,_,_,_,ho1,ho2,_⟩:=ho;intro q hq;obtain⟨p,hp1,hp2⟩:∃p∈l,p.1=q.1:=by
  have:q.1∈l.map (·.1):=by rw[←h.ops];exact List.mem_map.2 ⟨q,hq,rfl⟩
  exact List.mem_map.1 this
 have h6:=hp q.1 (by rw[←hl,←hp2];exact List.mem_map.2 ⟨p,hp1,rfl⟩);rcases h.pr q hq with⟨h1,h2⟩ | h1
 ·exact⟨h1.below h.bel,h2,h6⟩
 ·obtain⟨⟨_,_,_,_,_,h5,_⟩,_⟩:=ho2 p hp1;exact⟨RowPr.pairs h1 (by omega) (by rw[←hp2];exact h5),Wh.of_own h1,h6⟩
theorem Cpx.done {w:World} {c:Chg} {l li:List OV} {xa:Option Addr} {xc:Nat} {ya:Option Addr} {yc:Nat} {kk:Nat} {wr:World} (h:Cpx w c l li xa xc ya yc kk wr) {vd vo:Value} (hd:IsPairs w vd c.deps) (ho:IsOps w vo l) (hl:l.map (·.1)=c.ops) (hi:I64 c.actor∧I64 c.seq∧I64 c.start) (hp:∀o∈c.ops,o.preds.length≤1000000)
 (Z:World) (hz:∀e s v n xs,wr.ownsRow (w.heap.size+2) e s v n xs→Z.ownsRow (w.heap.size+2) e s v n xs) (hkk:l.length≤kk):
 IsChgH (w.heap.size+2) Z (.agg #[.int .i64 c.actor,.int .i64 c.seq,.int .i64 c.start,.slice xa c.deps.length xc,.slice ya l.length yc]) c:=by
 obtain⟨_,_,_,_,hd1,hd2,_⟩:=hd;obtain⟨_,_,_,_,ho1,ho2,_⟩:=ho;have hR:=hz _ _ _ _ _ h.row;have hD:=hz _ _ _ _ _ h.dep;have hm:∀q∈li,∃p∈l,p.1=q.1:=fun q hq=>by
  have:q.1∈l.map (·.1):=by rw[←h.ops];exact List.mem_map.2 ⟨q,hq,rfl⟩
  exact List.mem_map.1 this
 refine⟨_,_,li,rfl,hi,hD,?_,by rw[h.ops];exact hl,fun q hq=>?_,⟨hd1,hd2⟩,by rw[h.len];omega,fun q hq=>?_⟩
 ·exact hR
 ·obtain⟨j,hj,rfl⟩:=List.getElem_of_mem hq;exact hz _ _ _ _ _ (h.pk j hj (by have:=h.len;omega))
 ·obtain⟨p,hp1,hp2⟩:=hm q hq;obtain⟨⟨_,_,_,_,_,h5,_⟩,h7⟩:=ho2 p hp1;have h6:=hp q.1 (by rw[←hl,←hp2];exact List.mem_map.2 ⟨p,hp1,rfl⟩);rw[←hp2] at h6 ⊢;exact⟨h7,by omega,h5⟩
theorem copyOf_hi (v:Value) (c:Chg) (w:World) (hv:IsChgW w v c) (h1:c.deps.length≤1000000) (h2:c.ops.length≤1000000) (h3:∀o∈c.ops,o.preds.length≤1000000):
 Calls Tryz.prog 34 #[v] w fun e w'=>∃u,e=.returned u∧IsChgH w.heap.size w' u c∧Below w.heap.size w w':=by
 obtain⟨ud,uo,l,rfl,hi,hd,ho,hl,wd,wo,wq⟩:=hv;obtain⟨da,dc,rfl,_⟩:=id hd;obtain⟨oa,oc,rfl,_⟩:=id ho;have hll:l.length≤1000000:=by have:=congrArg List.length hl;rw[List.length_map] at this;omega
 have b0:=(bAl w (.cells #[.int .i64 c.actor,.int .i64 c.seq,.int .i64 c.start,.slice da c.deps.length dc,.slice oa l.length oc] 33)).alloc (by simp) (.cells #[.int .i64 0,.int .i64 0,.int .i64 0,.slice none 0 0,.slice none 0 0] 33);have x0:=heap_alloc_old (heap_alloc_new w (.cells #[.int .i64 c.actor,.int .i64 c.seq,.int .i64 c.start,.slice da c.deps.length dc,.slice oa l.length oc] 33)) (.cells #[.int .i64 0,.int .i64 0,.int .i64 0,.slice none 0 0,.slice none 0 0] 33);have y0:=heap_alloc_new (w.alloc (.cells #[.int .i64 c.actor,.int .i64 c.seq,.int .i64 c.start,.slice da c.deps.length dc,.slice oa l.length oc] 33)) (.cells #[.int .i64 0,.int .i64 0,.int .i64 0,.slice none 0 0,.slice none 0 0] 33);rw[show(w.alloc (.cells #[.int .i64 c.actor,.int .i64 c.seq,.int .i64 c.start,.slice da c.deps.length dc,.slice oa l.length oc] 33)).heap.size=w.heap.size+1 from by simp] at y0;have sz0:((w.alloc (.cells #[.int .i64 c.actor,.int .i64 c.seq,.int .i64 c.start,.slice da c.deps.length dc,.slice oa l.length oc] 33)).alloc (.cells #[.int .i64 0,.int .i64 0,.int .i64 0,.slice none 0 0,.slice none 0 0] 33)).heap.size=w.heap.size+2:=by simp
 have HA:=hY4 b0 x0 y0 sz0;have HH:Hid (IsPairs w (.slice da c.deps.length dc) c.deps∧IsOps w (.slice oa l.length oc) l∧Wh (.slice da c.deps.length dc)∧Wh (.slice oa l.length oc)∧(∀q∈l,Wh q.2)∧c.deps.length≤1000000∧l.length≤1000000∧(∀o∈c.ops,o.preds.length≤1000000)∧l.map (·.1)=c.ops∧(I64 c.actor∧I64 c.seq∧I64 c.start)):=⟨hd,ho,wd,wo,wq,h1,hll,h3,hl,hi⟩
 clear hd ho wd wo wq h1 h2 h3 hl hi hll b0 x0 y0 sz0;go_enter Tryz.func34,Tryz.ntmps34
 go_upto_region 1 with fail
 obtain⟨b0,x0,y0,sz0⟩:=HA.out;clear HA;generalize (w.alloc (.cells #[.int .i64 c.actor,.int .i64 c.seq,.int .i64 c.start,.slice da c.deps.length dc,.slice oa l.length oc] 33)).alloc (.cells #[.int .i64 0,.int .i64 0,.int .i64 0,.slice none 0 0,.slice none 0 0] 33)=W at *;obtain⟨-,-,-,c3,-⟩:=cLs x0;obtain⟨vd,W1,r1,o1,b1⟩:=run_copy Tryz.underlying30 infoR 30 W (w.heap.size+2) (by omega) (.slice da c.deps.length dc) c.deps (HH.out.1.below b0) HH.out.2.2.1 HH.out.2.2.2.2.2.1;obtain⟨xa,xc,rfl⟩:=rowPr_len o1;have x1:=(Kp.of (S:=[]) b1).heap x0 (by simp);have y1:=(Kp.of (S:=[]) b1).heap y0 (by simp);obtain⟨-,-,-,s3,-⟩:=cLs x1;have sf:=fRz x1;have x2:(W1.setCell ⟨w.heap.size,3,none⟩ (.slice xa c.deps.length xc)).heap[w.heap.size]?=some (.cells #[.int .i64 c.actor,.int .i64 c.seq,.int .i64 c.start,.slice xa c.deps.length xc,.slice oa l.length oc] 33):=set_at x1 3 _;have y2:=heap_set_other (g:=w.heap.size) (i:=3) (v:=.slice xa c.deps.length xc) y1 (by omega);have o2:=ownsRow_setCell_below o1 (a:=⟨w.heap.size,3,none⟩) (by show w.heap.size<w.heap.size+2;omega) (.slice xa c.deps.length xc);have bW:Below w.heap.size w W1:=b0.trans (b1.mono (by omega));have bW2:=bW.setCell (p:=⟨w.heap.size,3,none⟩) lRf (.slice xa c.deps.length xc);have z2:w.heap.size+2≤(W1.setCell ⟨w.heap.size,3,none⟩ (.slice xa c.deps.length xc)).heap.size:=by
  have h5:=((Below.refl w.heap.size W1).setCell (p:=⟨w.heap.size,3,none⟩) lRf (.slice xa c.deps.length xc)).size;have h6:=b1.size;omega
 have HN:=hY5 x2 y2 o2 bW2 z2;clear x0 y0 x1 y1 x2 y2 o1 o2 b0 b1 bW bW2 z2;go_upto_region 2 with(first | (at_builtin;refine wp_append rfl _ _ 30 rfl _ _ _ _ rfl rfl r1 ?_))
 obtain⟨x2,y2,o2,bW2,z2⟩:=HN.out;clear HN c3 r1 s3 sf sz0;generalize W1.setCell ⟨w.heap.size,3,none⟩ (.slice xa c.deps.length xc)=W2 at *;obtain⟨-,-,-,-,c4,-⟩:=cLs x2;obtain⟨vo,W3,r3,o3,b3⟩:=run_copyO 31 W2 (w.heap.size+2) z2 (.slice oa l.length oc) l (HH.out.2.1.below bW2) HH.out.2.2.2.1 HH.out.2.2.2.2.2.2.1;obtain⟨ya,yc,rfl⟩:=rowO_len o3;have x3:=(Kp.of (S:=[]) b3).heap x2 (by simp);have y3:=(Kp.of (S:=[]) b3).heap y2 (by simp);obtain⟨-,-,-,-,s4,-⟩:=cLs x3;have sf:=fRz x3;have x4:(W3.setCell ⟨w.heap.size,4,none⟩ (.slice ya l.length yc)).heap[w.heap.size]?=some (.cells #[.int .i64 c.actor,.int .i64 c.seq,.int .i64 c.start,.slice xa c.deps.length xc,.slice ya l.length yc] 33):=set_at x3 4 _;have y4:=heap_set_other (g:=w.heap.size) (i:=4) (v:=.slice ya l.length yc) y3 (by omega);have o4:=ownsRow_setCell_below o3 (a:=⟨w.heap.size,4,none⟩) (by show w.heap.size<w.heap.size+2;omega) (.slice ya l.length yc);have p4:=ownsRow_setCell_below (own_below o2 b3 lRf) (a:=⟨w.heap.size,4,none⟩) (by show w.heap.size<w.heap.size+2;omega) (.slice ya l.length yc);have bW3:Below w.heap.size w W3:=bW2.trans (b3.mono (by omega));have bW4:=bW3.setCell (p:=⟨w.heap.size,4,none⟩) lRf (.slice ya l.length yc);have z4:w.heap.size+2≤(W3.setCell ⟨w.heap.size,4,none⟩ (.slice ya l.length yc)).heap.size:=by
  have h5:=((Below.refl w.heap.size W3).setCell (p:=⟨w.heap.size,4,none⟩) lRf (.slice ya l.length yc)).size;have h6:=b3.size;omega
 have HN:=hY6 x4 y4 o4 p4 bW4 z4;clear x2 y2 o2 bW2 z2 x3 y3 o3 b3 x4 y4 o4 p4 bW3 bW4 z4;go_upto_region 3 with(first | (at_builtin;refine wp_append rfl _ _ 31 rfl _ _ _ _ rfl rfl r3 ?_))
 obtain⟨x4,y4,o4,p4,bW4,z4⟩:=HN.out;clear HN c4 r3 s4 sf;generalize W3.setCell ⟨w.heap.size,4,none⟩ (.slice ya l.length yc)=W4 at *;have C0:Cpx w c l l xa xc ya yc 0 W4:=⟨x4,y4,o4,p4,rfl,fun q hq=>Or.inl ⟨(by obtain⟨_,_,_,_,_,hr,_⟩:=HH.out.2.1;exact(hr q hq).1),HH.out.2.2.2.2.1 q hq⟩,fun j _ hj=>absurd hj (Nat.not_lt_zero _),bW4,z4⟩
 obtain⟨-,-,-,-,c5,-⟩:=cLs x4;have HC0:Hid _:=C0;clear C0 x4 y4 o4 p4 bW4 z4;go_wp2_with fail;go_loopg [16] l.length (fun gk i wr=>∃(k:Nat) (li:List OV),k+gk=l.length∧i=.int .i64 (k:Int)∧Cpx w c l li xa xc ya yc k wr)
 case atStart=>exact⟨0,l,by omega,rfl,HC0.out⟩
 case round=>
  obtain⟨k,li,hk,rfl,hC⟩:=hrel;by_cases hlt:k<l.length
  ·have g1:(k:Int)<l.length:=by omega
   have hli:=hC.len;have hkl:k<li.length:=by omega
   have hne:li≠[]:=fun e=>by rw[e] at hkl;simp at hkl
   obtain⟨g,cap,ey,hg,hgs,hcap,hfz,⟨cur,hcur⟩,hcs⟩:=rowO_form hC.row hne;obtain⟨ey1,ey3,ey2⟩:=Value.slice.inj ey;clear ey3;subst ey1 ey2;obtain⟨hpv,hwv,hpl⟩:=hC.prs HH.out.2.1 HH.out.2.2.2.2.2.2.2.2.1 HH.out.2.2.2.2.2.2.2.1 li[k] (List.getElem_mem hkl);obtain⟨⟨o,pv⟩,hq⟩:∃q:OV,li[k]=q:=⟨_,rfl⟩
   have hcs1:=hcs k hkl;rw[hq] at hcs1 hpv hwv hpl;dsimp only at hcs1 hpv hwv hpl;obtain⟨pa,pc,rfl,_⟩:=id hpv;have q0:wr.cell? ⟨g,k*13,none⟩=some (.int .i64 o.kind):=hcs1 0 (by decide);have q1:wr.cell? ⟨g,k*13+1,none⟩=some (.int .i64 o.obj.1):=hcs1 1 (by decide);have q2:wr.cell? ⟨g,k*13+2,none⟩=some (.int .i64 o.obj.2):=hcs1 2 (by decide);have q3:wr.cell? ⟨g,k*13+3,none⟩=some (.string o.key):=hcs1 3 (by decide);have q4:wr.cell? ⟨g,k*13+4,none⟩=some (.int .i64 o.elem.1):=hcs1 4 (by decide);have q5:wr.cell? ⟨g,k*13+5,none⟩=some (.int .i64 o.elem.2):=hcs1 5 (by decide);have q6:wr.cell? ⟨g,k*13+6,none⟩=some (.bool o.ins):=hcs1 6 (by decide);have q7:wr.cell? ⟨g,k*13+7,none⟩=some (.int .i64 o.val.k):=hcs1 7 (by decide);have q8:wr.cell? ⟨g,k*13+8,none⟩=some (.int .i64 o.val.n):=hcs1 8 (by decide);have q9:wr.cell? ⟨g,k*13+9,none⟩=some (.string o.val.t):=hcs1 9 (by decide);have q10:wr.cell? ⟨g,k*13+10,none⟩=some (.int .i64 o.val.o):=hcs1 10 (by decide);have q11:wr.cell? ⟨g,k*13+11,none⟩=some (.int .i64 o.val.a):=hcs1 11 (by decide);have q12:wr.cell? ⟨g,k*13+12,none⟩=some (.slice pa o.preds.length pc):=hcs1 12 (by decide);have hk2:(k:Int)<1000000:=by have:=HH.out.2.2.2.2.2.2.1;omega
   have bA:=bAl wr (.cells (opA o o.ins (.slice pa o.preds.length pc)) 62);have ob:=heap_alloc_new wr (.cells (opA o o.ins (.slice pa o.preds.length pc)) 62);have HF:=hY9 hli hg hgs hcur hq bA ob ((hpv.below bA)) (hC.grow bA);have HW:=hY2 hwv hpl;have HK:=hY2 hk hlt;clear hC hlt hcs hcs1 hne ey hli hg hgs hcap hcur hq c5 hfz bA ob hpv hwv hpl hk;go_upto_region 6 with fail
   obtain⟨hli,hg,hgs,hcur,hq,bA,ob,hpv,hC⟩:=HF.out;clear HF q0 q1 q2 q3 q4 q5 q6 q7 q8 q9 q10 q11 q12;generalize wr.alloc (.cells (opA o o.ins (.slice pa o.preds.length pc)) 62)=W at *;have hcur1:=heap_below hcur bA lRf;obtain⟨-,-,-,-,e4,-⟩:=cLs hC.x;obtain⟨-,-,-,-,-,-,-,-,-,-,-,-,e12,-⟩:=cLs ob;have bD:Below W.heap.size W W.drew:=drew_of (Below.refl _ W);obtain⟨nv,V,r1,o1,b1⟩:=run_copy Tryz.underlying50 infoD 50 W.drew (w.heap.size+2) hC.z (.slice pa o.preds.length pc) o.preds (hpv.below bD) HW.out.1 HW.out.2;obtain⟨na,nc,rfl⟩:=rowPr_len o1;have hCV:=hC.grow (bD.trans b1);have hcur2:=heap_below hcur1 (bD.trans b1) lRf;obtain⟨-,-,-,-,f4,-⟩:=cLs hCV.x;have ff:=fRz hcur2;have fs:∃z,V.cell? ⟨g,k*13+12,none⟩=some z∧z=Value.slice pa o.preds.length pc:=by
    obtain⟨g',cap',ey,_,_,_,_,_,hcs⟩:=rowO_form hCV.row (fun e=>by rw[e] at hkl;simp at hkl);have eg:=(Value.slice.inj ey).1;have eg2:g=g':=by have:=Option.some.inj eg;simpa using this
    subst eg2;have:=hcs k hkl 12 (by decide);rw[hq] at this;exact⟨_,this.trans rfl,rfl⟩
   obtain⟨_,fs,rfl⟩:=fs;have hn:RowPr 49 (w.heap.size+2) (.slice na o.preds.length nc) li[k].1.preds V:=by rw[hq];exact o1
   have HP:Hid _:=Cpx.put k hCV hkl _ hn hg hcur2;clear hCV hn o1 b1 bD hcur2 hcur1 hC hpv ob bA hq hcur hgs hg hli;go_region_law (refine step_append_known rfl (.const (.slice none 0 0)) (.tmp 25) 50 rfl (.slice none 0 0) (.slice pa o.preds.length pc) _ V (by simp[Act.eval]) (by simp[Act.eval]) r1 ?_);all_goals
    have hP:=HP.out;clear r1 f4 ff fs e4 e12;generalize V.setCell ⟨g,k*13+12,none⟩ (.slice na o.preds.length nc)=V2 at *;have HP2:Hid _:=hP;clear hP;go_wp2;go_roundg (gk - 1)
    case measure=>have:=HK.out;omega
    case rel=>exact⟨k+1,_,by have:=HK.out;omega,by first | rfl | go_num | (congr 1;unfold wrap64;have:=HK.out;omega),HP2.out⟩
  ·have hke:k=l.length:=by omega
   have g1:¬(k:Int)<l.length:=by omega
   have HC:Hid _:=hC;have X:=hC.x;have Y:=hC.y;obtain⟨q0,q1,q2,q3,q4,-⟩:=cLs X;obtain⟨z0,z1,z2,z3,z4,-⟩:=cLs Y;have zf:=fRz Y;have HX:=hY2 (set_at (set_at (set_at (set_at (set_at Y 0 (.int .i64 c.actor)) 1 (.int .i64 c.seq)) 2 (.int .i64 c.start)) 3 (.slice xa c.deps.length xc)) 4 (.slice ya l.length yc)) hC.bel;have HKE:Hid (l.length≤k):=by show _≤_;omega
   clear X Y hC hlt hk c5;go_wp2;obtain⟨Xz,bz⟩:=HX.out;have bZ:=(((((HC.out.bel).setCell (p:=⟨w.heap.size+1,0,none⟩) (Nat.le_succ _) (.int .i64 c.actor)).setCell (p:=⟨w.heap.size+1,1,none⟩) (Nat.le_succ _) (.int .i64 c.seq)).setCell (p:=⟨w.heap.size+1,2,none⟩) (Nat.le_succ _) (.int .i64 c.start)).setCell (p:=⟨w.heap.size+1,3,none⟩) (Nat.le_succ _) (.slice xa c.deps.length xc)).setCell (p:=⟨w.heap.size+1,4,none⟩) (Nat.le_succ _) (.slice ya l.length yc);have hw:∀e s v n xs,wr.ownsRow (w.heap.size+2) e s v n xs→(((((wr.setCell ⟨w.heap.size+1,0,none⟩ (.int .i64 c.actor)).setCell ⟨w.heap.size+1,1,none⟩ (.int .i64 c.seq)).setCell ⟨w.heap.size+1,2,none⟩ (.int .i64 c.start)).setCell ⟨w.heap.size+1,3,none⟩ (.slice xa c.deps.length xc)).setCell ⟨w.heap.size+1,4,none⟩ (.slice ya l.length yc)).ownsRow (w.heap.size+2) e s v n xs:=fun e s v n xs h=>
    ownsRow_setCell_below (ownsRow_setCell_below (ownsRow_setCell_below (ownsRow_setCell_below (ownsRow_setCell_below h (Nat.lt_succ_self _) _) (Nat.lt_succ_self _) _) (Nat.lt_succ_self _) _) (Nat.lt_succ_self _) _) (Nat.lt_succ_self _) _
   have D:=HC.out.done HH.out.1 HH.out.2.1 HH.out.2.2.2.2.2.2.2.2.1 HH.out.2.2.2.2.2.2.2.2.2 HH.out.2.2.2.2.2.2.2.1 _ hw HKE.out;clear hw HX q0 q1 q2 q3 q4 z0 z1 z2 z3 z4 zf bz;generalize (((((wr.setCell ⟨w.heap.size+1,0,none⟩ (.int .i64 c.actor)).setCell ⟨w.heap.size+1,1,none⟩ (.int .i64 c.seq)).setCell ⟨w.heap.size+1,2,none⟩ (.int .i64 c.start)).setCell ⟨w.heap.size+1,3,none⟩ (.slice xa c.deps.length xc)).setCell ⟨w.heap.size+1,4,none⟩ (.slice ya l.length yc))=Z at *;obtain⟨q0,q1,q2,q3,q4,-⟩:=cLs Xz;exact bodyPost_ret (v:=.agg #[.int .i64 c.actor,.int .i64 c.seq,.int .i64 c.start,.slice xa c.deps.length xc,.slice ya l.length yc]) (by simp[results,Tryz.results34,go_sem,q0,q1,q2,q3,q4]) rfl ⟨_,rfl,D.mono (Nat.le_add_right _ _),bZ⟩
end Go.Proofs.YtamhlgflbacjgaaGreat
namespace Go.Proofs.YtamhlgflbacjgaaGreat
open Go.RowKit Go.Sort
structure RI (L W:List Chg):Prop where
 inv:Inv L
 nd:(refsOf W).Nodup
 dis:∀r∈refsOf W,r∉refsOf L
 few:L.length+W.length≤120
 ok:∀x∈W,chk x=0
theorem RI.nil:RI [] []:=⟨Inv.nil,List.nodup_nil,(fun _ h=>by cases h),by simp,(fun _ h=>by cases h)⟩
theorem refs_append (a b:List Chg):refsOf (a++b)=refsOf a++refsOf b:=List.map_append
theorem RI.wait {L W:List Chg} {c:Chg} (h:RI L W) (hc:chk c=0) (hn:¬(c.ref∈refsOf L∨c.ref∈refsOf W)) (hl:L.length+W.length<120):RI L (W++[c]):=by
 refine⟨h.inv,?_,fun r hr=>?_,by rw[List.length_append];simp;omega,fun x hx=>?_⟩
 ·rw[refs_append,List.nodup_append];refine⟨h.nd,by simp[refsOf],fun a ha b hb e=>?_⟩;subst e;have e2:a=c.ref:=by simpa [refsOf] using hb
  exact hn (Or.inr (by rw[←e2];exact ha))
 ·rw[refs_append] at hr;rcases List.mem_append.1 hr with hr | hr
  ·exact h.dis r hr
  ·have e2:r=c.ref:=by simpa [refsOf] using hr
   rw[e2];exact fun e=>hn (Or.inl e)
 ·rcases List.mem_append.1 hx with hx | hx
  ·exact h.ok x hx
  ·rw[List.mem_singleton.1 hx];exact hc
theorem RI.come {L W:List Chg} {c:Chg} (h:RI L W) (hc:chk c=0) (hn:¬(c.ref∈refsOf L∨c.ref∈refsOf W)) (hl:L.length+W.length<120) (hr:Ready L c) (hf:FitC L c):RI (L++[c]) W:=by
 refine⟨h.inv.more hc (fun e=>hn (Or.inl e)) hr hf,h.nd,fun r hr=>?_,by rw[List.length_append];simp;omega,h.ok⟩;rw[refs_append];intro e;rcases List.mem_append.1 e with e | e
 ·exact h.dis r hr e
 ·have e2:r=c.ref:=by simpa [refsOf] using e
  exact hn (Or.inr (by rw[←e2];exact hr))
theorem filter_cut {W:List Chg} (hn:(refsOf W).Nodup) (k:Nat) (hk:k<W.length):W.filter (fun x=>decide (x.ref≠W[k].ref))=W.take k++W.drop (k+1):=by
 induction W generalizing k with
 | nil=>simp at hk
 | cons a l ih=>
  have h2:=List.nodup_cons.1 (show(a.ref::refsOf l).Nodup from hn);cases k with
  | zero=>
   rw[List.filter_cons];simp only[List.getElem_cons_zero,ne_eq,not_true_eq_false,decide_false,Bool.false_eq_true,if_false,List.take_zero,List.nil_append,Nat.zero_add,List.drop_succ_cons,List.drop_zero];rw[List.filter_eq_self.2];intro x hx;refine decide_eq_true fun e=>h2.1 ?_;rw[←e];exact mem_refs.2 ⟨x,hx,rfl⟩
  | succ k=>
   rw[List.filter_cons];have hk':k<l.length:=by simpa using hk
   simp only[List.getElem_cons_succ,List.take_succ_cons,List.drop_succ_cons,List.cons_append];have hd:decide (a.ref≠l[k].ref)=true:=decide_eq_true (fun e=>h2.1 (by rw[e];exact mem_refs.2 ⟨_,List.getElem_mem hk',rfl⟩));rw[if_pos hd,ih h2.2 k hk']
theorem RI.step {L W L' W':List Chg} (h:RI L W) (hs:WStep L W L' W'):RI L' W':=by
 obtain⟨c,hc,h1,rfl⟩:=hs;have sub:∀r,r∈refsOf (W.filter fun x=>decide (x.ref≠c.ref))→r∈refsOf W∧r≠c.ref:=fun r hr=>by
  obtain⟨x,hx,rfl⟩:=mem_refs.1 hr;have:=List.mem_filter.1 hx;exact⟨mem_refs.2 ⟨x,this.1,rfl⟩,of_decide_eq_true this.2⟩
 have hlen:(W.filter fun x=>decide (x.ref≠c.ref)).length<W.length:=by
  refine Nat.lt_of_le_of_ne (List.length_filter_le _ _) (fun e=>?_);have h9:=List.length_filter_eq_length_iff.1 e c hc.1;simp at h9
 have hnd:(refsOf (W.filter fun x=>decide (x.ref≠c.ref))).Nodup:=by unfold refsOf;exact h.nd.sublist (List.filter_sublist.map _)
 have hfew:=h.few;rcases h1 with⟨hf,rfl⟩ | ⟨_,rfl⟩
 ·refine⟨h.inv.more (h.ok c hc.1) (h.dis _ (mem_refs.2 ⟨c,hc.1,rfl⟩)) hc.2.1 hf,hnd,fun r hr e=>?_,by rw[List.length_append];simp only[List.length_singleton];omega,fun x hx=>h.ok x (List.mem_filter.1 hx).1⟩;rw[refs_append] at e;rcases List.mem_append.1 e with e | e
  ·exact h.dis r (sub r hr).1 e
  ·have e2:r=c.ref:=by simpa [refsOf] using e
   exact(sub r hr).2 e2
 ·exact⟨h.inv,hnd,fun r hr=>h.dis r (sub r hr).1,by omega,fun x hx=>h.ok x (List.mem_filter.1 hx).1⟩
end Go.Proofs.YtamhlgflbacjgaaGreat
