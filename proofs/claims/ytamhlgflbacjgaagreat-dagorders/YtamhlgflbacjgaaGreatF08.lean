/-
  What is proved: as each theorem says.
  Conditions: as each theorem says.
-/
import Derived.Test.YtamhlgflbacjgaaGreatF00
import Derived.Test.YtamhlgflbacjgaaGreatF04
import Derived.Deep.RegionLaw
import Derived.Deep.CutRange
set_option maxRecDepth 100000
set_option maxHeartbeats 16000000
namespace Go.Proofs.YtamhlgflbacjgaaGreat
open Go.RowKit Go.Maps
def noOp:OpM:=⟨0,(0,0),.empty,(0,0),false,⟨0,0,.empty,0,0⟩,[]⟩
def lookM:List Chg→Pr→OpM×Pr
 | [],_=>(noOp,(0,0))
 | c::l,a=>if a.2=c.actor∧0≤wrap64 (a.1 - c.start)∧wrap64 (a.1 - c.start)<c.ops.length then (c.ops.getD (wrap64 (a.1 - c.start)).toNat noOp,a) else lookM l a
def knCells (o:OpM) (pv:Value) (a:Pr):List Value:=opCells o pv++[.int .i64 a.1,.int .i64 a.2]
def knVal (o:OpM) (pv:Value) (a:Pr):Value:=.agg (knCells o pv a).toArray
theorem sets15 {W:World} {b:Nat} {T:TypeId} (c0 c1 c2 c3 c4 c5 c6 c7 c8 c9 c10 c11 c12 c13 c14 v0 v1 v2 v3 v4 v5 v6 v7 v8 v9 v10 v11 v12 v13 v14:Value) (h:W.heap[b]?=some (.cells #[c0,c1,c2,c3,c4,c5,c6,c7,c8,c9,c10,c11,c12,c13,c14] T)):(((((((((((((((W.setCell ⟨b,0,none⟩ (v0)).setCell ⟨b,1,none⟩ (v1)).setCell ⟨b,2,none⟩ (v2)).setCell ⟨b,3,none⟩ (v3)).setCell ⟨b,4,none⟩ (v4)).setCell ⟨b,5,none⟩ (v5)).setCell ⟨b,6,none⟩ (v6)).setCell ⟨b,7,none⟩ (v7)).setCell ⟨b,8,none⟩ (v8)).setCell ⟨b,9,none⟩ (v9)).setCell ⟨b,10,none⟩ (v10)).setCell ⟨b,11,none⟩ (v11)).setCell ⟨b,12,none⟩ (v12)).setCell ⟨b,13,none⟩ (v13)).setCell ⟨b,14,none⟩ (v14)).heap[b]?=some (.cells #[v0,v1,v2,v3,v4,v5,v6,v7,v8,v9,v10,v11,v12,v13,v14] T):=by
 have h1:=(set_at (set_at (set_at (set_at (set_at (set_at (set_at (set_at (set_at (set_at (set_at (set_at (set_at (set_at (set_at h 0 (v0)) 1 (v1)) 2 (v2)) 3 (v3)) 4 (v4)) 5 (v5)) 6 (v6)) 7 (v7)) 8 (v8)) 9 (v9)) 10 (v10)) 11 (v11)) 12 (v12)) 13 (v13)) 14 (v14))
 simpa using h1
theorem bel15 {W w:World} {b B:Nat} (v0 v1 v2 v3 v4 v5 v6 v7 v8 v9 v10 v11 v12 v13 v14:Value) (h:Below B w W) (hb:B≤b):Below B w (((((((((((((((W.setCell ⟨b,0,none⟩ (v0)).setCell ⟨b,1,none⟩ (v1)).setCell ⟨b,2,none⟩ (v2)).setCell ⟨b,3,none⟩ (v3)).setCell ⟨b,4,none⟩ (v4)).setCell ⟨b,5,none⟩ (v5)).setCell ⟨b,6,none⟩ (v6)).setCell ⟨b,7,none⟩ (v7)).setCell ⟨b,8,none⟩ (v8)).setCell ⟨b,9,none⟩ (v9)).setCell ⟨b,10,none⟩ (v10)).setCell ⟨b,11,none⟩ (v11)).setCell ⟨b,12,none⟩ (v12)).setCell ⟨b,13,none⟩ (v13)).setCell ⟨b,14,none⟩ (v14)):=(((((((((((((((h.setCell (p:=⟨b,0,none⟩) hb (v0)).setCell (p:=⟨b,1,none⟩) hb (v1)).setCell (p:=⟨b,2,none⟩) hb (v2)).setCell (p:=⟨b,3,none⟩) hb (v3)).setCell (p:=⟨b,4,none⟩) hb (v4)).setCell (p:=⟨b,5,none⟩) hb (v5)).setCell (p:=⟨b,6,none⟩) hb (v6)).setCell (p:=⟨b,7,none⟩) hb (v7)).setCell (p:=⟨b,8,none⟩) hb (v8)).setCell (p:=⟨b,9,none⟩) hb (v9)).setCell (p:=⟨b,10,none⟩) hb (v10)).setCell (p:=⟨b,11,none⟩) hb (v11)).setCell (p:=⟨b,12,none⟩) hb (v12)).setCell (p:=⟨b,13,none⟩) hb (v13)).setCell (p:=⟨b,14,none⟩) hb (v14))
theorem lookUp_any (v:Value) (l:List CX) (a:Pr) (w:World) (hv:IsChgs w v l):
 Calls Tryz.prog 112 #[v,refV a] w fun e w'=>(∃(sa:Option Addr) (sn sc:Nat),e=.returned (knVal (lookM (l.map (·.c)) a).1 (.slice sa sn sc) (lookM (l.map (·.c)) a).2))∧Below w.heap.size w w':=by
 obtain⟨a1,a2⟩:=a;obtain⟨va,cap,rfl,h1,h2,hr,h3⟩:=hv;have H3:=hY2 hr h3;have HZ:Hid (l.length≤1000000):=h2;have b0:=(bAl w (.cells #[.int .i64 a1,.int .i64 a2] 49)).alloc (by simp) (.cells #[.int .i64 0,.int .i64 0,.int .i64 0,.string .empty,.int .i64 0,.int .i64 0,.bool false,.int .i64 0,.int .i64 0,.string .empty,.int .i64 0,.int .i64 0,.slice none 0 0,.int .i64 0,.int .i64 0] 151);have x0:=heap_alloc_old (heap_alloc_new w (.cells #[.int .i64 a1,.int .i64 a2] 49)) (.cells #[.int .i64 0,.int .i64 0,.int .i64 0,.string .empty,.int .i64 0,.int .i64 0,.bool false,.int .i64 0,.int .i64 0,.string .empty,.int .i64 0,.int .i64 0,.slice none 0 0,.int .i64 0,.int .i64 0] 151);have y0:=heap_alloc_new (w.alloc (.cells #[.int .i64 a1,.int .i64 a2] 49)) (.cells #[.int .i64 0,.int .i64 0,.int .i64 0,.string .empty,.int .i64 0,.int .i64 0,.bool false,.int .i64 0,.int .i64 0,.string .empty,.int .i64 0,.int .i64 0,.slice none 0 0,.int .i64 0,.int .i64 0] 151);rw[show(w.alloc (.cells #[.int .i64 a1,.int .i64 a2] 49)).heap.size=w.heap.size+1 from by simp] at y0;have HA:=hY3 b0 x0 y0;clear h3 hr h1 h2 b0 x0 y0;go_enter Tryz.func112,Tryz.ntmps112
 go_wp2_with fail;go_loopw [10] (fun i wr=>∃k:Nat,k≤l.length∧i=.int .i64 k∧Hid (lookM (l.map (·.c)) (a1,a2)=lookM ((l.map (·.c)).drop k) (a1,a2))∧Hid (Below w.heap.size w wr∧wr.heap[w.heap.size]?=some (.cells #[.int .i64 a1,.int .i64 a2] 49)∧wr.heap[w.heap.size+1]?=some (.cells #[.int .i64 0,.int .i64 0,.int .i64 0,.string .empty,.int .i64 0,.int .i64 0,.bool false,.int .i64 0,.int .i64 0,.string .empty,.int .i64 0,.int .i64 0,.slice none 0 0,.int .i64 0,.int .i64 0] 151))) (fun i _=>l.length - (RowKit.intOf i).toNat)
 case atStart=>exact⟨0,Nat.zero_le _,rfl,rfl,HA.out⟩
 case round=>
  clear HA;obtain⟨k,hk,rfl,hL,hw⟩:=hrel;by_cases hlt:k<l.length
  ·obtain⟨b,off,rfl,h4,h5⟩:=H3.out.2 (fun e=>by rw[e] at hlt;simp at hlt);have hIn:=H3.out.1 l[k] (List.getElem_mem hlt);obtain⟨⟨i1,i2,i3⟩,d,dn,dc,o',om',oe',e1,e2⟩:=CX.form hIn;obtain⟨ud,uo,lo,f1,f2,f3,f4,f5,f6,f7⟩:=hIn;clear f2 f3 f4 f5;simp at f1;obtain⟨rfl,rfl⟩:=f1;obtain⟨o,oe,e3,f8,f9,f10,f11⟩:=f6;obtain⟨q,hq⟩:=gNz (l[k]:CX);have hbel:=hw.out.1;have X:=hw.out.2.1;have Y:=hw.out.2.2;have hc:∀j,j<5→wr.cell? ⟨b,off+k*5+j,none⟩=q.cells[j]?:=fun j hj=>by rw[hbel.cell (p:=⟨b,off+k*5+j,none⟩) h4,←hq];exact h5 k hlt j hj
   rw[hq] at i1 i2 i3 e1 e3 f7;have hll:lo.length=q.c.ops.length:=by rw[←f7];simp
   have x0:wr.cell? ⟨b,off+k*5,none⟩=some (.int .i64 q.c.actor):=hc 0 (by omega);have x1:wr.cell? ⟨b,off+k*5+1,none⟩=some (.int .i64 q.c.seq):=hc 1 (by omega);have x2:wr.cell? ⟨b,off+k*5+2,none⟩=some (.int .i64 q.c.start):=hc 2 (by omega);have x3:wr.cell? ⟨b,off+k*5+3,none⟩=some (.slice d dn dc):=by rw[←e1];exact hc 3 (by omega)
   have x4:wr.cell? ⟨b,off+k*5+4,none⟩=some (.slice o lo.length oe):=by rw[←e3];exact hc 4 (by omega)
   obtain⟨y0,y1,-⟩:=cLs X;have hx1:=lt_of_heap X;have hx2:=lt_of_heap Y;have g1:(k:Int)<l.length:=by omega
   have g2:(k:Int)<1000000:=by have:=HZ.out;omega
   have HS:Hid (lookM ((l.map (·.c)).drop k) (a1,a2)=if a2=q.c.actor∧0≤wrap64 (a1 - q.c.start)∧wrap64 (a1 - q.c.start)<lo.length then (q.c.ops.getD (wrap64 (a1 - q.c.start)).toNat noOp,(a1,a2)) else lookM ((l.map (·.c)).drop (k+1)) (a1,a2)):=by
    show _=_;rw[List.drop_eq_getElem_cons (by simpa using hlt)];simp only[List.getElem_map,hq,hll];rfl
   obtain⟨i,hi⟩:=gNz (wrap64 (a1 - q.c.start):Int);obtain⟨qa,hqa⟩:=gNz (q.c.actor:Int);rw[hi,hqa] at HS;rw[hqa] at x0;have HK:Hid (k<l.length):=hlt;have HB:=hY3 hbel X Y;have HN:Hid (∀o,Below w.heap.size w (wr.alloc o)∧(wr.alloc o).heap[w.heap.size]?=some (.cells #[.int .i64 a1,.int .i64 a2] 49)∧(wr.alloc o).heap[w.heap.size+1]?=some (.cells #[.int .i64 0,.int .i64 0,.int .i64 0,.string .empty,.int .i64 0,.int .i64 0,.bool false,.int .i64 0,.int .i64 0,.string .empty,.int .i64 0,.int .i64 0,.slice none 0 0,.int .i64 0,.int .i64 0] 151)):=fun o=>⟨hbel.alloc hbel.size o,heap_alloc_old X o,heap_alloc_old Y o⟩
   have HF:=hY2 f10 f11;have HM:Hid (lo.map (·.1)=q.c.ops):=f7;have HO:=hY2 f9 f8;clear h5 hk hbel hlt hc hq i1 i2 i3 e1 e2 e3 f7 f8 f9 f10 f11 X Y hw hqa hll;by_cases c1:a2=qa
   ·subst c1;by_cases c2:0≤i
    ·by_cases c3:i<lo.length
     ·obtain⟨n,rfl⟩:∃n:Nat,i=n:=⟨i.toNat,by omega⟩
      have hn:n<lo.length:=by omega
      obtain⟨ob,oo,rfl,hob,hcs⟩:=HF.out.2 (fun e=>by rw[e] at hn;simp at hn);obtain⟨⟨o,pv⟩,hoq⟩:∃q:OV,lo[n]=q:=⟨_,rfl⟩
      have hpv:=(HF.out.1 lo[n] (List.getElem_mem hn)).1;rw[hoq] at hpv;obtain⟨pa,pc,hpe,_⟩:=hpv;dsimp only at hpe;subst hpe;obtain⟨pn,hpn⟩:=gNz (o.preds.length:Nat);rw[hpn] at hoq;have hE:Hid (lookM (l.map (·.c)) (a1,a2)=(o,(a1,a2))):=by
       show _=_;rw[hL.out,HS.out,if_pos ⟨rfl,c2,c3⟩,←HM.out];simp[List.getD,hn,hoq]
      go_upto_region 6 with fail
      obtain⟨hbel,X,Y⟩:=HN.out (.cells #[.int .i64 a2,.int .i64 q.c.seq,.int .i64 q.c.start,.slice d dn dc,.slice (some ⟨ob,oo,none⟩) lo.length oe] 33);have N:=heap_alloc_new wr (.cells #[.int .i64 a2,.int .i64 q.c.seq,.int .i64 q.c.start,.slice d dn dc,.slice (some ⟨ob,oo,none⟩) lo.length oe] 33);obtain⟨W,hW⟩:∃W,W=wr.alloc (.cells #[.int .i64 a2,.int .i64 q.c.seq,.int .i64 q.c.start,.slice d dn dc,.slice (some ⟨ob,oo,none⟩) lo.length oe] 33):=⟨_,rfl⟩
      rw[←hW] at hbel X Y N ⊢;obtain⟨-,-,-,-,nx4,-⟩:=cLs N;obtain⟨ny0,ny1,-⟩:=cLs X;have hcs1:∀j,j<13→W.cell? ⟨ob,oo+n*13+j,none⟩=(opCells o (.slice pa pn pc))[j]?:=fun j hj=>by rw[hbel.cell (p:=⟨ob,oo+n*13+j,none⟩) hob,hcs n hn j hj,hoq]
      have p0:=hcs1 0 (by decide);have p1:=hcs1 1 (by decide);have p2:=hcs1 2 (by decide);have p3:=hcs1 3 (by decide);have p4:=hcs1 4 (by decide);have p5:=hcs1 5 (by decide);have p6:=hcs1 6 (by decide);have p7:=hcs1 7 (by decide);have p8:=hcs1 8 (by decide);have p9:=hcs1 9 (by decide);have p10:=hcs1 10 (by decide);have p11:=hcs1 11 (by decide);have p12:=hcs1 12 (by decide);simp only[opCells] at p0 p1 p2 p3 p4 p5 p6 p7 p8 p9 p10 p11 p12;simp at p0 p1 p2 p3 p4 p5 p6 p7 p8 p9 p10 p11 p12;obtain⟨z0,z1,z2,z3,z4,z5,z6,z7,z8,z9,z10,z11,z12,z13,z14,-⟩:=cLs Y;have zf:=fRz Y;have gn0:(0:Int)≤n:=by omega
      have gn1:(n:Int)<lo.length:=by omega
      have s1:=lt_of_heap X;have s2:=lt_of_heap Y;have s3:=lt_of_heap N;have HX:=hY3 hbel X Y;clear hbel X Y N hcs hcs1 hW x0 x1 x2 x3 x4 y0 y1 HB HN HF HS;go_region;clear z0 z1 z2 z3 z4 z5 z6 z7 z8 z9 z10 z11 z12 z13 z14 zf nx4 ny0 ny1 p0 p1 p2 p3 p4 p5 p6 p7 p8 p9 p10 p11 p12;go_wp2;obtain⟨hbel,X,Y⟩:=HX.out;have Y2:=sets15 _ _ _ _ _ _ _ _ _ _ _ _ _ _ _ (.int .i64 o.kind) (.int .i64 o.obj.1) (.int .i64 o.obj.2) (.string o.key) (.int .i64 o.elem.1) (.int .i64 o.elem.2) (.bool o.ins) (.int .i64 o.val.k) (.int .i64 o.val.n) (.string o.val.t) (.int .i64 o.val.o) (.int .i64 o.val.a) (.slice pa pn pc) (.int .i64 a1) (.int .i64 a2) Y;have bz:=drew_of (bel15 (.int .i64 o.kind) (.int .i64 o.obj.1) (.int .i64 o.obj.2) (.string o.key) (.int .i64 o.elem.1) (.int .i64 o.elem.2) (.bool o.ins) (.int .i64 o.val.k) (.int .i64 o.val.n) (.string o.val.t) (.int .i64 o.val.o) (.int .i64 o.val.a) (.slice pa pn pc) (.int .i64 a1) (.int .i64 a2) hbel (Nat.le_succ _));clear hbel X Y HX;generalize (((((((((((((((W.setCell ⟨w.heap.size+1,0,none⟩ (.int .i64 o.kind)).setCell ⟨w.heap.size+1,1,none⟩ (.int .i64 o.obj.1)).setCell ⟨w.heap.size+1,2,none⟩ (.int .i64 o.obj.2)).setCell ⟨w.heap.size+1,3,none⟩ (.string o.key)).setCell ⟨w.heap.size+1,4,none⟩ (.int .i64 o.elem.1)).setCell ⟨w.heap.size+1,5,none⟩ (.int .i64 o.elem.2)).setCell ⟨w.heap.size+1,6,none⟩ (.bool o.ins)).setCell ⟨w.heap.size+1,7,none⟩ (.int .i64 o.val.k)).setCell ⟨w.heap.size+1,8,none⟩ (.int .i64 o.val.n)).setCell ⟨w.heap.size+1,9,none⟩ (.string o.val.t)).setCell ⟨w.heap.size+1,10,none⟩ (.int .i64 o.val.o)).setCell ⟨w.heap.size+1,11,none⟩ (.int .i64 o.val.a)).setCell ⟨w.heap.size+1,12,none⟩ (.slice pa pn pc)).setCell ⟨w.heap.size+1,13,none⟩ (.int .i64 a1)).setCell ⟨w.heap.size+1,14,none⟩ (.int .i64 a2))=V at *;obtain⟨q0,q1,q2,q3,q4,q5,q6,q7,q8,q9,q10,q11,q12,q13,q14,-⟩:=cLs Y2;exact bodyPost_ret (v:=.agg (opB o o.ins (.slice pa pn pc) a1 a2)) (by simp[results,Tryz.results112,go_sem,q0,q1,q2,q3,q4,q5,q6,q7,q8,q9,q10,q11,q12,q13,q14]) rfl ⟨⟨pa,pn,pc,by rw[hE.out];rfl⟩,bz⟩
     ·have hE:Hid (lookM (l.map (·.c)) (a1,a2)=lookM ((l.map (·.c)).drop (k+1)) (a1,a2)):=by
       show _=_;rw[hL.out,HS.out,if_neg (fun e=>c3 e.2.2)]
      go_wp2;go_roundw
      case rel=>exact⟨k+1,HK.out,by go_num,hE,HN.out _⟩
      case measure=>simp[RowKit.intOf];have:=HK.out;omega
    ·have hE:Hid (lookM (l.map (·.c)) (a1,a2)=lookM ((l.map (·.c)).drop (k+1)) (a1,a2)):=by
      show _=_;rw[hL.out,HS.out,if_neg (fun e=>c2 e.2.1)]
     go_wp2;go_roundw
     case rel=>exact⟨k+1,HK.out,by go_num,hE,HN.out _⟩
     case measure=>simp[RowKit.intOf];have:=HK.out;omega
   ·have hab:(a2==qa)=false:=by simp[c1]
    have hE:Hid (lookM (l.map (·.c)) (a1,a2)=lookM ((l.map (·.c)).drop (k+1)) (a1,a2)):=by
     show _=_;rw[hL.out,HS.out,if_neg (fun e=>c1 e.1)]
    go_wp2;go_roundw
    case rel=>exact⟨k+1,HK.out,by go_num,hE,HN.out _⟩
    case measure=>simp[RowKit.intOf];have:=HK.out;omega
  ·have hke:k=l.length:=by omega
   have hE:Hid (lookM (l.map (·.c)) (a1,a2)=(noOp,(0,0))):=by
    show _=_;rw[hL.out,hke,List.drop_of_length_le (by simp)];rfl
   have Y:=hw.out.2.2;have hbel:=hw.out.1;obtain⟨z0,z1,z2,z3,z4,z5,z6,z7,z8,z9,z10,z11,z12,z13,z14,-⟩:=cLs Y;have zf:=fRz Y;have HX:=hY2 (sets15 _ _ _ _ _ _ _ _ _ _ _ _ _ _ _ (.int .i64 0) (.int .i64 0) (.int .i64 0) (.string ⟨#[]⟩) (.int .i64 0) (.int .i64 0) (.bool false) (.int .i64 0) (.int .i64 0) (.string ⟨#[]⟩) (.int .i64 0) (.int .i64 0) (.slice none 0 0) (.int .i64 0) (.int .i64 0) Y:_) (bel15 (.int .i64 0) (.int .i64 0) (.int .i64 0) (.string ⟨#[]⟩) (.int .i64 0) (.int .i64 0) (.bool false) (.int .i64 0) (.int .i64 0) (.string ⟨#[]⟩) (.int .i64 0) (.int .i64 0) (.slice none 0 0) (.int .i64 0) (.int .i64 0) hbel (Nat.le_succ _):_);clear hlt hk hbel Y hw;subst hke;go_wp2;obtain⟨Y2,bz⟩:=HX.out;clear HX z0 z1 z2 z3 z4 z5 z6 z7 z8 z9 z10 z11 z12 z13 z14 zf;generalize (((((((((((((((wr.setCell ⟨w.heap.size+1,0,none⟩ (.int .i64 0)).setCell ⟨w.heap.size+1,1,none⟩ (.int .i64 0)).setCell ⟨w.heap.size+1,2,none⟩ (.int .i64 0)).setCell ⟨w.heap.size+1,3,none⟩ (.string ⟨#[]⟩)).setCell ⟨w.heap.size+1,4,none⟩ (.int .i64 0)).setCell ⟨w.heap.size+1,5,none⟩ (.int .i64 0)).setCell ⟨w.heap.size+1,6,none⟩ (.bool false)).setCell ⟨w.heap.size+1,7,none⟩ (.int .i64 0)).setCell ⟨w.heap.size+1,8,none⟩ (.int .i64 0)).setCell ⟨w.heap.size+1,9,none⟩ (.string ⟨#[]⟩)).setCell ⟨w.heap.size+1,10,none⟩ (.int .i64 0)).setCell ⟨w.heap.size+1,11,none⟩ (.int .i64 0)).setCell ⟨w.heap.size+1,12,none⟩ (.slice none 0 0)).setCell ⟨w.heap.size+1,13,none⟩ (.int .i64 0)).setCell ⟨w.heap.size+1,14,none⟩ (.int .i64 0))=V at *;obtain⟨q0,q1,q2,q3,q4,q5,q6,q7,q8,q9,q10,q11,q12,q13,q14,-⟩:=cLs Y2;exact bodyPost_ret (v:=.agg #[.int .i64 0,.int .i64 0,.int .i64 0,.string ⟨#[]⟩,.int .i64 0,.int .i64 0,.bool false,.int .i64 0,.int .i64 0,.string ⟨#[]⟩,.int .i64 0,.int .i64 0,.slice none 0 0,.int .i64 0,.int .i64 0]) (by simp[results,Tryz.results112,go_sem,q0,q1,q2,q3,q4,q5,q6,q7,q8,q9,q10,q11,q12,q13,q14]) rfl ⟨⟨none,0,0,by rw[hE.out];rfl⟩,bz⟩
end Go.Proofs.YtamhlgflbacjgaaGreat
