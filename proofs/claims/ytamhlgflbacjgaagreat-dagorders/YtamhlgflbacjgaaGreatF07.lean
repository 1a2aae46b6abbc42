/-
  What is proved: as each theorem says.
  Conditions: as each theorem says.
-/
import Derived.Test.YtamhlgflbacjgaaGreatF00
import Derived.Test.YtamhlgflbacjgaaGreatF06
import Derived.Deep.CutRange
import Derived.Deep.LoopGhost
import Derived.Deep.RegionHeld3
import Derived.Deep.RegionLaw
set_option maxRecDepth 100000
set_option maxHeartbeats 16000000
namespace Go.Proofs.YtamhlgflbacjgaaGreat
open Go.RowKit Go.Maps
def IsChgW (w:World) (v:Value) (c:Chg):Prop:=
 ∃ud uo l,v=.agg #[.int .i64 c.actor,.int .i64 c.seq,.int .i64 c.start,ud,uo]∧(I64 c.actor∧I64 c.seq∧I64 c.start)∧IsPairs w ud c.deps∧IsOps w uo l∧l.map (·.1)=c.ops∧Wh ud∧Wh uo∧∀q∈l,Wh q.2
theorem IsChgW.chg {w:World} {v:Value} {c:Chg} (h:IsChgW w v c):IsChg w v c:=by
 obtain⟨ud,uo,l,h1,h2,h3,h4,h5,_⟩:=h;exact⟨ud,uo,l,h1,h2.1,h2.2.1,h2.2.2,h3,h4,h5⟩
theorem heap_set_other {w:World} {b g i:Nat} {v:Value} {o:Obj} (h:w.heap[b]?=some o) (hb:b≠g):(w.setCell ⟨g,i,none⟩ v).heap[b]?=some o:=by
 rw[Below.heap_setCell _ _ _ _ (by simpa using hb)];exact h
theorem Wh.of_own {w:World} {B e s n:Nat} {v:Value} {xs:List Value} (h:w.ownsRow B e s v n xs):Wh v:=by
 rcases h.2 with⟨rfl,_⟩ | ⟨g,cap,cur,rfl,_⟩
 ·exact Or.inl rfl
 ·exact Or.inr ⟨_,_,_,rfl⟩
structure Cpy (w:World) (c:Chg) (l li:List OV) (xa:Option Addr) (xc:Nat) (ya:Option Addr) (yc:Nat) (wr:World):Prop where
 x:wr.heap[w.heap.size]?=some (.cells #[.int .i64 c.actor,.int .i64 c.seq,.int .i64 c.start,.slice xa c.deps.length xc,.slice ya l.length yc] 33)
 y:wr.heap[w.heap.size+1]?=some (.cells #[.int .i64 0,.int .i64 0,.int .i64 0,.slice none 0 0,.slice none 0 0] 33)
 row:RowO (w.heap.size+2) (.slice ya l.length yc) li wr
 dep:RowPr 45 (w.heap.size+2) (.slice xa c.deps.length xc) c.deps wr
 ops:li.map (·.1)=l.map (·.1)
 pr:∀q∈li,(IsPairs w q.2 q.1.preds∧Wh q.2)∨RowPr 49 (w.heap.size+2) q.2 q.1.preds wr
 bel:Below w.heap.size w wr
 z:w.heap.size+2≤wr.heap.size
theorem Cpy.len {w:World} {c:Chg} {l li:List OV} {xa:Option Addr} {xc:Nat} {ya:Option Addr} {yc:Nat} {wr:World} (h:Cpy w c l li xa xc ya yc wr):li.length=l.length:=by
 have:=congrArg List.length h.ops;simpa using this
theorem step_append_known {ops:Array Oper} {o:Oper} {a:Act} {w:World} {K:Act→World→Prop} {Q:Exit→Act→World→Prop} {E:Prop} (hgd:o.guard=none) (s x:Operand) (T:TypeId)
 (ho:o.op=.call {callee:=.builtin .append,args:=#[s,x],argTypes:=#[T,T]}) (v u r:Value) (w':World) (hs:a.eval s=v) (hx:a.eval x=u)
 (hrun:(Builtin.append_ #[T,T] o.type #[v,u]).run Tryz.prog w=.ok r w') (hK:K (a.put o.dst r) w'):if Region.wanted o (yielded ops a.tmps)=true then Oper.wp Tryz.prog o a w K Q else E:=by
 have hw:Region.wanted o (yielded ops a.tmps)=true:=by simp[Region.wanted,hgd]
 rw[if_pos hw];unfold Oper.wp;simp[execOp,ho,resolve,invoke,builtin,hs,hx,hrun,Result.andThen];exact hK
theorem own_set_other {w:World} {B e s n g i t:Nat} {v u:Value} {xs:List Value} {cur:Array Value} (h:w.ownsRow B e s v n xs) (hg:w.heap[g]?=some (.cells cur t)) (ht:t≠e):(w.setCell ⟨g,i,none⟩ u).ownsRow B e s v n xs:=by
 refine⟨h.1,?_⟩;rcases h.2 with⟨e1,h0⟩ | ⟨g',cap',cur',e1,hg',hh,hc,hm,hz,ht'⟩
 ·exact Or.inl ⟨e1,h0⟩
 ·refine Or.inr ⟨g',cap',cur',e1,hg',heap_set_other hh (fun e2=>?_),hc,hm,hz,ht'⟩;subst e2;rw[hg] at hh;have:=Option.some.inj hh;injection this with _ h5
  exact ht h5
theorem Cpy.grow {w:World} {c:Chg} {l li:List OV} {xa:Option Addr} {xc:Nat} {ya:Option Addr} {yc:Nat} {wr V:World} (h:Cpy w c l li xa xc ya yc wr) (hb:Below wr.heap.size wr V):Cpy w c l li xa xc ya yc V:=
 ⟨heap_below h.x hb lRf,heap_below h.y hb lRf,own_below h.row hb lRf,own_below h.dep hb lRf,h.ops,fun q hq=>(h.pr q hq).imp id (fun r=>own_below r hb lRf),h.bel.trans (hb.mono (by have:=h.z;omega)),by have:=hb.size;have:=h.z;omega⟩
theorem Cpy.put {w:World} {c:Chg} {l li:List OV} {xa:Option Addr} {xc:Nat} {g yc:Nat} {V:World} (h:Cpy w c l li xa xc (some ⟨g,0,none⟩) yc V) (k:Nat) (hk:k<li.length) (nv:Value) (hn:RowPr 49 (w.heap.size+2) nv li[k].1.preds V) {cur:Array Value} (hg:w.heap.size+2≤g) (hh:V.heap[g]?=some (.cells cur 62)):
 Cpy w c l (li.set k (li[k].1,nv)) xa xc (some ⟨g,0,none⟩) yc (V.setCell ⟨g,k*13+12,none⟩ nv):=by
 refine⟨heap_set_other h.x (by omega),heap_set_other h.y (by omega),?_,own_set_other h.dep hh (by decide),?_,fun q hq=>?_,h.bel.setCell (p:=⟨g,k*13+12,none⟩) (show w.heap.size≤g by omega) nv,?_⟩
 ·have h5:=rowO_set (l:=li) (cap:=yc) (g:=g) (B:=w.heap.size+2) (w:=V) (by rw[h.len];exact h.row) k hk nv;rw[h.len] at h5;exact h5
 ·rw[←h.ops];refine List.ext_getElem (by simp) fun i h1 h2=>?_;simp only[List.getElem_map,List.getElem_set];split
  ·rename_i e;subst e;rfl
  ·rfl
 ·rcases List.mem_or_eq_of_mem_set hq with h5 | rfl
  ·exact(h.pr q h5).imp id (fun r=>own_set_other r hh (by decide))
  ·exact Or.inr (own_set_other hn hh (by decide))
 ·have:=((Below.refl w.heap.size V).setCell (p:=⟨g,k*13+12,none⟩) (show w.heap.size≤g by omega) nv).size;have:=h.z;omega
theorem Cpy.prs {w:World} {c:Chg} {l li:List OV} {xa:Option Addr} {xc:Nat} {ya:Option Addr} {yc:Nat} {wr:World} (h:Cpy w c l li xa xc ya yc wr) {vo:Value} (ho:IsOps w vo l) (hl:l.map (·.1)=c.ops) (hp:∀o∈c.ops,o.preds.length≤1000000):
 ∀q∈li,IsPairs wr q.2 q.1.preds∧Wh q.2∧q.1.preds.length≤1000000:=by
 obtain⟨_,_,_,_,ho1,ho2,_⟩:=ho;intro q hq;obtain⟨p,hp1,hp2⟩:∃p∈l,p.1=q.1:=by
  have:q.1∈l.map (·.1):=by rw[←h.ops];exact List.mem_map.2 ⟨q,hq,rfl⟩
  exact List.mem_map.1 this
 have h6:=hp q.1 (by rw[←hl,←hp2];exact List.mem_map.2 ⟨p,hp1,rfl⟩);rcases h.pr q hq with⟨h1,h2⟩ | h1
 ·exact⟨h1.below h.bel,h2,h6⟩
 ·obtain⟨⟨_,_,_,_,_,h5,_⟩,_⟩:=ho2 p hp1;exact⟨RowPr.pairs h1 (by omega) (by rw[←hp2];exact h5),Wh.of_own h1,h6⟩
theorem Cpy.done {w:World} {c:Chg} {l li:List OV} {xa:Option Addr} {xc:Nat} {ya:Option Addr} {yc:Nat} {wr:World} (h:Cpy w c l li xa xc ya yc wr) {vd vo:Value} (hd:IsPairs w vd c.deps) (ho:IsOps w vo l) (hl:l.map (·.1)=c.ops) (hi:I64 c.actor∧I64 c.seq∧I64 c.start) (hp:∀o∈c.ops,o.preds.length≤1000000)
 (Z:World) (hz:∀e s v n xs,wr.ownsRow (w.heap.size+2) e s v n xs→Z.ownsRow (w.heap.size+2) e s v n xs) (hb:Below w.heap.size w Z):
 IsChgW Z (.agg #[.int .i64 c.actor,.int .i64 c.seq,.int .i64 c.start,.slice xa c.deps.length xc,.slice ya l.length yc]) c:=by
 obtain⟨_,_,_,_,hd1,hd2,_⟩:=hd;obtain⟨_,_,_,_,ho1,ho2,_⟩:=ho;have hR:=hz _ _ _ _ _ h.row;have hD:=hz _ _ _ _ _ h.dep;have hm:∀q∈li,∃p∈l,p.1=q.1:=fun q hq=>by
  have:q.1∈l.map (·.1):=by rw[←h.ops];exact List.mem_map.2 ⟨q,hq,rfl⟩
  exact List.mem_map.1 this
 have hpr:∀q∈li,IsPairs Z q.2 q.1.preds∧Wh q.2:=fun q hq=>by
  rcases h.pr q hq with⟨h1,h2⟩ | h1
  ·exact⟨h1.below hb,h2⟩
  ·obtain⟨p,hp1,hp2⟩:=hm q hq;have h3:=hz _ _ _ _ _ h1;obtain⟨⟨_,_,_,_,_,h5,_⟩,_⟩:=ho2 p hp1;have h6:=hp q.1 (by rw[←hl,←hp2];exact List.mem_map.2 ⟨p,hp1,rfl⟩);exact⟨RowPr.pairs h3 (by omega) (by rw[←hp2];exact h5),Wh.of_own h3⟩
 refine⟨_,_,li,rfl,hi,RowPr.pairs hD hd1 hd2,?_,by rw[h.ops];exact hl,Wh.of_own hD,Wh.of_own hR,fun q hq=>(hpr q hq).2⟩;refine RowO.ops hR (by rw[h.len];omega) fun q hq=>⟨(hpr q hq).1,?_⟩
 obtain⟨p,hp1,hp2⟩:=hm q hq;rw[←hp2];exact(ho2 p hp1).2
end Go.Proofs.YtamhlgflbacjgaaGreat
