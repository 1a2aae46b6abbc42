/-
  What is proved: as each theorem says.
  Conditions: as each theorem says.
-/
import Derived.Test.YtamhlgflbacjgaaGreatF00
import Derived.Test.YtamhlgflbacjgaaGreatF04
import Derived.Test.YtamhlgflbacjgaaGreatF11
import Derived.Deep.RegionHeld3
import Derived.Handy
import Derived.Test.YtamhlgflbacjgaaGreatF09
import Derived.Deep.LoopGhost
import Derived.Deep.RegionLaw
import Derived.Test.YtamhlgflbacjgaaGreatF06
set_option maxRecDepth 100000
set_option maxHeartbeats 16000000
namespace Go.Proofs.YtamhlgflbacjgaaGreat
open Go.RowKit Go.Maps
theorem idx2_any (f:FuncId) (eg:∀args w,(callFunc f args).run Tryz.prog w=.ok (.enter f args) w) (c1 c2:Value) (p:Pr→Bool) (v:Value) (l:List Pr) (w:World) (hv:IsPairs w v l) (hp:PredR f #[c1,c2] p l w):
 Calls Tryz.prog 41 #[v,.func (Fn.func f) #[] #[c1,c2]] w fun e w'=>e=.returned (.int .i64 (idxP p l))∧Below w.heap.size w w':=by
 obtain⟨a,cap,rfl,h1,h2,hr,h3⟩:=hv;have H3:Hid (l≠[]→∃b off,a=some ⟨b,off,none⟩∧_):=h3;have HP:Hid (PredR f #[c1,c2] p l w):=hp;have HZ:=hY2 h1 h2;clear h3 hp hr h1 h2;go_enter Tryz.func41,Tryz.ntmps41
 go_wp2_with fail;go_loopw [8] (fun i wr=>∃k:Nat,k≤l.length∧i=.int .i64 k∧Hid (∀j (hj:j<k) (hl:j<l.length),p l[j]=false)∧Below w.heap.size w wr) (fun i _=>l.length - (RowKit.intOf i).toNat)
 case atStart=>exact⟨0,Nat.zero_le _,rfl,fun j hj=>absurd hj (Nat.not_lt_zero _),Below.refl _ _⟩
 case round=>
  obtain⟨k,hk,rfl,hno,hbel⟩:=hrel;by_cases hlt:k<l.length
  ·obtain⟨b,off,rfl,h4,h5⟩:=H3.out (fun e=>by rw[e] at hlt;simp at hlt);have x0:wr.cell? ⟨b,off+k*2,none⟩=some (.int .i64 l[k].1):=by rw[hbel.cell (p:=⟨b,off+k*2,none⟩) h4];exact(h5 k hlt).1
   have x1:wr.cell? ⟨b,off+k*2+1,none⟩=some (.int .i64 l[k].2):=by rw[hbel.cell (p:=⟨b,off+k*2+1,none⟩) h4];exact(h5 k hlt).2
   have g1:(k:Int)<l.length:=by omega
   have g2:(k:Int)<8796093022208:=by have:=HZ.out;omega
   have E:=HP.out l[k] (List.getElem_mem hlt) wr hbel;obtain⟨q,hq⟩:=gNz (l[k]:Pr);have HK:Hid (k<l.length):=hlt;have HQ:Hid (∀h:k<l.length,l[k]=q):=fun _=>hq;rw[hq] at x0 x1 E;clear hq;have HB:Hid (Below w.heap.size w wr):=hbel;clear h5 hk hbel hlt;cases hpq:p q with
   | true=>
    rw[hpq] at E;go_wp2_with fail;go_fit E;rintro e w2 ⟨rfl,b2⟩;have HB2:Hid (Below w.heap.size w w2):=HB.out.trans (b2.mono HB.out.size);clear b2 E;go_wp2;go_ret;have e1:=idxP_at p l k HK.out (fun j hj=>hno.out j hj (by have:=HK.out;omega)) (by rw[HQ.out HK.out];exact hpq);exact⟨by rw[e1];rfl,HB2.out⟩
   | false=>
    rw[hpq] at E;go_wp2_with fail;go_fit E;rintro e w2 ⟨rfl,b2⟩;have HB2:Hid (Below w.heap.size w w2):=HB.out.trans (b2.mono HB.out.size);clear b2 E;go_wp2;go_roundw
    case rel=>
     refine⟨k+1,HK.out,by go_num,fun j hj hl=>?_,HB2.out⟩;rcases Nat.lt_or_ge j k with e | e
     ·exact hno.out j e hl
     ·obtain rfl:j=k:=by omega
      rw[HQ.out HK.out];exact hpq
    case measure=>simp[RowKit.intOf];have:=HK.out;omega
  ·have hke:k=l.length:=by omega
   subst hke;have e1:idxP p l= -1:=idxP_none.2 (fun x hx=>by
    obtain⟨j,hj,rfl⟩:=List.getElem_of_mem hx;exact hno.out j hj hj)
   have HE:Hid (idxP p l= -1):=e1;have HB:Hid (Below w.heap.size w wr):=hbel;clear e1 hlt hk hno hbel;go_wp2;go_ret;exact⟨by rw[HE.out];rfl,HB.out⟩
theorem idxD_any (f:FuncId) (eg:∀args w,(callFunc f args).run Tryz.prog w=.ok (.enter f args) w) (c1 c2:Value) (p:Pr→Bool) (v:Value) (l:List Pr) (w:World) (hv:IsPairs w v l) (hp:PredR f #[c1,c2] p l w):
 Calls Tryz.prog 145 #[v,.func (Fn.func f) #[] #[c1,c2]] w fun e w'=>e=.returned (.int .i64 (idxP p l))∧Below w.heap.size w w':=by
 obtain⟨a,cap,rfl,h1,h2,hr,h3⟩:=hv;have H3:Hid (l≠[]→∃b off,a=some ⟨b,off,none⟩∧_):=h3;have HP:Hid (PredR f #[c1,c2] p l w):=hp;have HZ:=hY2 h1 h2;clear h3 hp hr h1 h2;go_enter Tryz.func145,Tryz.ntmps145
 go_wp2_with fail;go_loopw [8] (fun i wr=>∃k:Nat,k≤l.length∧i=.int .i64 k∧Hid (∀j (hj:j<k) (hl:j<l.length),p l[j]=false)∧Below w.heap.size w wr) (fun i _=>l.length - (RowKit.intOf i).toNat)
 case atStart=>exact⟨0,Nat.zero_le _,rfl,fun j hj=>absurd hj (Nat.not_lt_zero _),Below.refl _ _⟩
 case round=>
  obtain⟨k,hk,rfl,hno,hbel⟩:=hrel;by_cases hlt:k<l.length
  ·obtain⟨b,off,rfl,h4,h5⟩:=H3.out (fun e=>by rw[e] at hlt;simp at hlt);have x0:wr.cell? ⟨b,off+k*2,none⟩=some (.int .i64 l[k].1):=by rw[hbel.cell (p:=⟨b,off+k*2,none⟩) h4];exact(h5 k hlt).1
   have x1:wr.cell? ⟨b,off+k*2+1,none⟩=some (.int .i64 l[k].2):=by rw[hbel.cell (p:=⟨b,off+k*2+1,none⟩) h4];exact(h5 k hlt).2
   have g1:(k:Int)<l.length:=by omega
   have g2:(k:Int)<8796093022208:=by have:=HZ.out;omega
   have E:=HP.out l[k] (List.getElem_mem hlt) wr hbel;obtain⟨q,hq⟩:=gNz (l[k]:Pr);have HK:Hid (k<l.length):=hlt;have HQ:Hid (∀h:k<l.length,l[k]=q):=fun _=>hq;rw[hq] at x0 x1 E;clear hq;have HB:Hid (Below w.heap.size w wr):=hbel;clear h5 hk hbel hlt;cases hpq:p q with
   | true=>
    rw[hpq] at E;go_wp2_with fail;go_fit E;rintro e w2 ⟨rfl,b2⟩;have HB2:Hid (Below w.heap.size w w2):=HB.out.trans (b2.mono HB.out.size);clear b2 E;go_wp2;go_ret;have e1:=idxP_at p l k HK.out (fun j hj=>hno.out j hj (by have:=HK.out;omega)) (by rw[HQ.out HK.out];exact hpq);exact⟨by rw[e1];rfl,HB2.out⟩
   | false=>
    rw[hpq] at E;go_wp2_with fail;go_fit E;rintro e w2 ⟨rfl,b2⟩;have HB2:Hid (Below w.heap.size w w2):=HB.out.trans (b2.mono HB.out.size);clear b2 E;go_wp2;go_roundw
    case rel=>
     refine⟨k+1,HK.out,by go_num,fun j hj hl=>?_,HB2.out⟩;rcases Nat.lt_or_ge j k with e | e
     ·exact hno.out j e hl
     ·obtain rfl:j=k:=by omega
      rw[HQ.out HK.out];exact hpq
    case measure=>simp[RowKit.intOf];have:=HK.out;omega
  ·have hke:k=l.length:=by omega
   subst hke;have e1:idxP p l= -1:=idxP_none.2 (fun x hx=>by
    obtain⟨j,hj,rfl⟩:=List.getElem_of_mem hx;exact hno.out j hj hj)
   have HE:Hid (idxP p l= -1):=e1;have HB:Hid (Below w.heap.size w wr):=hbel;clear e1 hlt hk hno hbel;go_wp2;go_ret;exact⟨by rw[HE.out];rfl,HB.out⟩
theorem containsD_any (f:FuncId) (eg:∀args w,(callFunc f args).run Tryz.prog w=.ok (.enter f args) w) (c1 c2:Value) (p:Pr→Bool) (v:Value) (l:List Pr) (w:World) (hv:IsPairs w v l) (hp:PredR f #[c1,c2] p l w):
 Calls Tryz.prog 113 #[v,.func (Fn.func f) #[] #[c1,c2]] w fun e w'=>e=.returned (.bool (l.any p))∧Below w.heap.size w w':=by
 have E:=idxD_any f eg c1 c2 p v l w hv hp;have hr:=idxP_range p l;have HR:Hid ((l.any p=true↔0≤idxP p l)):=by
  show _↔_;constructor
  ·intro h;have:idxP p l≠-1:=fun e=>by
    obtain⟨x,hx,hy⟩:=List.any_eq_true.1 h;rw[idxP_none.1 e x hx] at hy;cases hy
   omega
  ·intro h;cases ha:l.any p with
   | true=>rfl
   | false=>
    have:idxP p l= -1:=idxP_none.2 (fun x hx=>by
     cases hpx:p x with
     | false=>rfl
     | true=>rw[List.any_eq_true.2 ⟨x,hx,hpx⟩] at ha;cases ha)
    omega
 obtain⟨ix,hix⟩:∃x:Int,Hid (x=idxP p l):=⟨_,rfl⟩
 rw[←hix.out] at E HR;obtain⟨a,cap,rfl,_⟩:=hv;clear hr hp;by_cases h0:0≤ix
 ·go_enter Tryz.func113,Tryz.ntmps113
  go_wp2_with fail;go_fit E;rintro e w1 ⟨rfl,b1⟩;go_wp2;go_ret;exact⟨by rw[HR.out.2 h0];simp,b1⟩
 ·go_enter Tryz.func113,Tryz.ntmps113
  go_wp2_with fail;go_fit E;rintro e w1 ⟨rfl,b1⟩;go_wp2;go_ret;have:l.any p=false:=by
   cases ha:l.any p with
   | false=>rfl
   | true=>exact absurd (HR.out.1 ha) (by omega)
  exact⟨by rw[this];simp[h0],b1⟩
def opFitsM (cs:List Chg) (o:OpM):Bool:=keyFitsM cs o&&elemFitsM cs o&& !(o.preds.any fun a=> !predFitsM o (lookM cs a).1 (lookM cs a).2)
theorem cell_in {W:World} {a:Addr} {v:Value} (h:W.cell? a=some v):a.block<W.heap.size:=by
 unfold World.cell? at h;cases hb:W.heap[a.block]? with
 | none=>rw[hb] at h;simp at h
 | some o=>exact lt_of_heap hb
theorem keepU {W W':World} {o:OpM} {pa va:Option Addr} {pn pc vc ln x y z:Nat} {a1 a2:Int} (h:W.cell? ⟨x,0,none⟩=some (.int .i64 o.kind)∧W.cell? ⟨x,1,none⟩=some (.int .i64 o.obj.1)∧W.cell? ⟨x,2,none⟩=some (.int .i64 o.obj.2)∧W.cell? ⟨x,3,none⟩=some (.string o.key)∧W.cell? ⟨x,4,none⟩=some (.int .i64 o.elem.1)∧W.cell? ⟨x,5,none⟩=some (.int .i64 o.elem.2)∧W.cell? ⟨x,6,none⟩=some (.bool o.ins)∧W.cell? ⟨x,7,none⟩=some (.int .i64 o.val.k)∧W.cell? ⟨x,8,none⟩=some (.int .i64 o.val.n)∧W.cell? ⟨x,9,none⟩=some (.string o.val.t)∧W.cell? ⟨x,10,none⟩=some (.int .i64 o.val.o)∧W.cell? ⟨x,11,none⟩=some (.int .i64 o.val.a)∧W.cell? ⟨x,12,none⟩=some (.slice pa pn pc)∧W.cell? ⟨y,0,none⟩=some (.slice va ln vc)∧W.cell? ⟨z,0,none⟩=some (.int .i64 a1)∧W.cell? ⟨z,1,none⟩=some (.int .i64 a2)) (hb:Below W.heap.size W W'):W'.cell? ⟨x,0,none⟩=some (.int .i64 o.kind)∧W'.cell? ⟨x,1,none⟩=some (.int .i64 o.obj.1)∧W'.cell? ⟨x,2,none⟩=some (.int .i64 o.obj.2)∧W'.cell? ⟨x,3,none⟩=some (.string o.key)∧W'.cell? ⟨x,4,none⟩=some (.int .i64 o.elem.1)∧W'.cell? ⟨x,5,none⟩=some (.int .i64 o.elem.2)∧W'.cell? ⟨x,6,none⟩=some (.bool o.ins)∧W'.cell? ⟨x,7,none⟩=some (.int .i64 o.val.k)∧W'.cell? ⟨x,8,none⟩=some (.int .i64 o.val.n)∧W'.cell? ⟨x,9,none⟩=some (.string o.val.t)∧W'.cell? ⟨x,10,none⟩=some (.int .i64 o.val.o)∧W'.cell? ⟨x,11,none⟩=some (.int .i64 o.val.a)∧W'.cell? ⟨x,12,none⟩=some (.slice pa pn pc)∧W'.cell? ⟨y,0,none⟩=some (.slice va ln vc)∧W'.cell? ⟨z,0,none⟩=some (.int .i64 a1)∧W'.cell? ⟨z,1,none⟩=some (.int .i64 a2):=by
 obtain⟨h0,h1,h2,h3,h4,h5,h6,h7,h8,h9,h10,h11,h12,h13,h14,h15⟩:=h;exact⟨(hb.cell (cell_in h0)).trans h0,(hb.cell (cell_in h1)).trans h1,(hb.cell (cell_in h2)).trans h2,(hb.cell (cell_in h3)).trans h3,(hb.cell (cell_in h4)).trans h4,(hb.cell (cell_in h5)).trans h5,(hb.cell (cell_in h6)).trans h6,(hb.cell (cell_in h7)).trans h7,(hb.cell (cell_in h8)).trans h8,(hb.cell (cell_in h9)).trans h9,(hb.cell (cell_in h10)).trans h10,(hb.cell (cell_in h11)).trans h11,(hb.cell (cell_in h12)).trans h12,(hb.cell (cell_in h13)).trans h13,(hb.cell (cell_in h14)).trans h14,(hb.cell (cell_in h15)).trans h15⟩
theorem unfit_any (v:Value) (l:List CX) (o:OpM) (pa:Option Addr) (pn pc x y:Nat) (a:Pr) (w:World) (hv:IsChgs w v l)
 (hx:w.heap[x]?=some (.cells (opA o o.ins (.slice pa pn pc)) 62)) (hy:w.heap[y]?=some (.cells #[v] 23)):
 Calls Tryz.prog 110 #[refV a,.pointer (some ⟨x,0,none⟩),.pointer (some ⟨y,0,none⟩)] w fun e w'=>e=.returned (.bool (!predFitsM o (lookM (l.map (·.c)) a).1 (lookM (l.map (·.c)) a).2))∧Below w.heap.size w w':=by
 obtain⟨a1,a2⟩:=a;obtain⟨va,vc,rfl,_⟩:=id hv;have b0:=bAl w (.cells #[.int .i64 a1,.int .i64 a2] 49);have n0:=heap_alloc_new w (.cells #[.int .i64 a1,.int .i64 a2] 49);have x0:=heap_alloc_old hx (.cells #[.int .i64 a1,.int .i64 a2] 49);have y0:=heap_alloc_old hy (.cells #[.int .i64 a1,.int .i64 a2] 49);obtain⟨⟨p,x1,x2⟩,hp⟩:∃p,lookM (l.map (·.c)) (a1,a2)=p:=⟨_,rfl⟩
 have hvW:=hv.below b0;rw[hp];dsimp only;obtain⟨rk,hrk⟩:=gNz (predFitsM o p (x1,x2):Bool);have E2:=fun sa sn sc W=>predFits_any o p pa sa pn pc sn sc (x1,x2) W;rw[hrk] at E2 ⊢;have HA:=hY6 b0 n0 x0 y0 hvW hp;clear b0 n0 x0 y0 hx hy hv hvW hp hrk;go_enter Tryz.func110,Tryz.ntmps110
 go_wp2;obtain⟨b0,n0,x0,y0,hvW,hp⟩:=HA.out;clear HA;generalize w.alloc (.cells #[.int .i64 a1,.int .i64 a2] 49)=W at *;have E1:=lookUp_any _ l (a1,a2) W.drew (hvW.below (drew_of (Below.refl _ W)));rw[hp] at E1;obtain⟨c0,c1,-⟩:=cLs n0;have d0:W.cell? ⟨y,0,none⟩=some (.slice va l.length vc):=cLo y0 0;obtain⟨p0,p1,p2,p3,p4,p5,p6,p7,p8,p9,p10,p11,p12,-⟩:=cLs x0;have HB:Hid (Below w.heap.size w W):=b0;have z0:=lt_of_heap n0;have z1:=lt_of_heap x0;have z2:=lt_of_heap y0;clear b0 n0 x0 y0 hvW hp;go_region_held3 (fun W=>W.cell? ⟨x,0,none⟩=some (.int .i64 o.kind)∧W.cell? ⟨x,1,none⟩=some (.int .i64 o.obj.1)∧W.cell? ⟨x,2,none⟩=some (.int .i64 o.obj.2)∧W.cell? ⟨x,3,none⟩=some (.string o.key)∧W.cell? ⟨x,4,none⟩=some (.int .i64 o.elem.1)∧W.cell? ⟨x,5,none⟩=some (.int .i64 o.elem.2)∧W.cell? ⟨x,6,none⟩=some (.bool o.ins)∧W.cell? ⟨x,7,none⟩=some (.int .i64 o.val.k)∧W.cell? ⟨x,8,none⟩=some (.int .i64 o.val.n)∧W.cell? ⟨x,9,none⟩=some (.string o.val.t)∧W.cell? ⟨x,10,none⟩=some (.int .i64 o.val.o)∧W.cell? ⟨x,11,none⟩=some (.int .i64 o.val.a)∧W.cell? ⟨x,12,none⟩=some (.slice pa pn pc)∧W.cell? ⟨y,0,none⟩=some (.slice va l.length vc)∧W.cell? ⟨w.heap.size,0,none⟩=some (.int .i64 a1)∧W.cell? ⟨w.heap.size,1,none⟩=some (.int .i64 a2)) (first | exact keepU (by assumption) hbB | exact keepU (by assumption) hbA | go_keep) (first
  | (go_at_call 112;refine Calls.mono E1 ?_;rintro e w1 ⟨⟨sa,sn,sc,rfl⟩,hbA⟩;simp only[knVal,knCells,opCells,List.cons_append,List.nil_append])
  | (go_at_call 111;refine(E2 _ _ _ _).mono ?_;rintro e w2 ⟨rfl,hbB⟩))
 go_wp2;go_ret;exact⟨rfl,((drew_of HB.out).trans (hbA.mono HB.out.size)).trans (hbB.mono (Nat.le_trans HB.out.size hbA.size))⟩
theorem opFits_any (v u:Value) (l:List CX) (o:OpM) (w:World) (hv:IsChgs w v l) (hu:IsPairs w u o.preds):
 Calls Tryz.prog 77 #[opVal o u,v] w fun e w'=>e=.returned (.bool (opFitsM (l.map (·.c)) o))∧Below w.heap.size w w':=by
 obtain⟨pa,pc,rfl,_⟩:=id hu;obtain⟨va,vc,rfl,_⟩:=id hv;simp only[opVal,opCells];have b0:=(bAl w (.cells (opA o o.ins (.slice pa o.preds.length pc)) 62)).alloc (by simp) (.cells #[.slice va l.length vc] 23);have x0:=heap_alloc_old (heap_alloc_new w (.cells (opA o o.ins (.slice pa o.preds.length pc)) 62)) (.cells #[.slice va l.length vc] 23);have y0:=heap_alloc_new (w.alloc (.cells (opA o o.ins (.slice pa o.preds.length pc)) 62)) (.cells #[.slice va l.length vc] 23);rw[show(w.alloc (.cells (opA o o.ins (.slice pa o.preds.length pc)) 62)).heap.size=w.heap.size+1 from by simp] at y0;have E1:=keyFits_any _ l o pa o.preds.length pc _ (hv.below b0);simp only[opVal,opCells] at E1;have HA:=hY5 b0 x0 y0 hv hu;have eg:∀args w,(callFunc 110 args).run Tryz.prog w=.ok (.enter 110 args) w:=enters_of Tryz.func110 (by kernel_rfl) rfl;unfold opFitsM;obtain⟨kb,hkb⟩:=gNz (keyFitsM (l.map (·.c)) o:Bool);obtain⟨eb,heb⟩:=gNz (elemFitsM (l.map (·.c)) o:Bool);obtain⟨ab,hab⟩:=gNz ((o.preds.any fun a=> !predFitsM o (lookM (l.map (·.c)) a).1 (lookM (l.map (·.c)) a).2):Bool);rw[hkb] at E1 ⊢;rw[heb,hab];have HE:=hY2 heb hab;clear b0 x0 y0 hv hu hkb heb hab;cases kb with
 | false=>
  go_enter Tryz.func77,Tryz.ntmps77
  go_wp2_with fail;go_fit E1;rintro e w1 ⟨rfl,b1⟩;have HB:Hid (Below w.heap.size w w1):=HA.out.1.trans (b1.mono HA.out.1.size);clear b1 E1;go_wp2;go_ret;exact⟨by simp,HB.out⟩
 | true=>
  go_enter Tryz.func77,Tryz.ntmps77
  go_wp2_with fail;go_fit E1;rintro e w1 ⟨rfl,b1⟩;obtain⟨b0,x0,y0,hv,hu⟩:=HA.out;have B1:Below w.heap.size w w1:=b0.trans (b1.mono b0.size);have x1:=heap_below x0 b1 lRf;have y1:=heap_below y0 b1 lRf;have E2:=elemFits_any _ l o pa o.preds.length pc w1 (hv.below B1);simp only[opVal,opCells] at E2;rw[HE.out.1] at E2;obtain⟨p0,p1,p2,p3,p4,p5,p6,p7,p8,p9,p10,p11,p12,-⟩:=cLs x1;have d0:w1.cell? ⟨w.heap.size+1,0,none⟩=some (.slice va l.length vc):=cLo y1 0;have z1:=lt_of_heap x1;have z2:=lt_of_heap y1;have HB:=hY3 B1 x1 y1;clear b0 x0 y0 hv hu B1 x1 y1 b1 E1;cases eb with
  | false=>
   go_wp2_with fail;go_fit E2;rintro e w2 ⟨rfl,b2⟩;have HB2:Hid (Below w.heap.size w w2):=HB.out.1.trans (b2.mono HB.out.1.size);clear b2 E2 p0 p1 p2 p3 p4 p5 p6 p7 p8 p9 p10 p11 p12 d0 z1 z2;go_wp2;go_ret;exact⟨by simp,HB2.out⟩
  | true=>
   go_wp2_with fail;go_fit E2;rintro e w2 ⟨rfl,b2⟩;have B2:Below w.heap.size w w2:=HB.out.1.trans (b2.mono HB.out.1.size);have x2:=heap_below HB.out.2.1 b2 lRf;have y2:=heap_below HB.out.2.2 b2 lRf;have E3:=containsD_any 110 eg (.pointer (some ⟨w.heap.size,0,none⟩)) (.pointer (some ⟨w.heap.size+1,0,none⟩)) (fun a=> !predFitsM o (lookM (l.map (·.c)) a).1 (lookM (l.map (·.c)) a).2) (.slice pa o.preds.length pc) o.preds w2 (HA.out.2.2.2.2.below B2) (fun a _ W hb=>
    unfit_any _ l o pa o.preds.length pc w.heap.size (w.heap.size+1) a W ((HA.out.2.2.2.1.below B2).below hb) (heap_below x2 hb lRf) (heap_below y2 hb lRf))
   rw[HE.out.2] at E3;obtain⟨-,-,-,-,-,-,-,-,-,-,-,-,q12,-⟩:=cLs x2;have z3:=lt_of_heap x2;have HB2:Hid (Below w.heap.size w w2):=B2;clear b2 E2 p0 p1 p2 p3 p4 p5 p6 p7 p8 p9 p10 p11 p12 d0 z1 z2 B2 x2 y2;go_wp2_with fail;go_fit E3;rintro e w3 ⟨rfl,b3⟩;have HB3:Hid (Below w.heap.size w w3):=HB2.out.trans (b3.mono HB2.out.size);clear b3 E3 q12 z3;go_wp2;go_ret;exact⟨by simp,HB3.out⟩
def zE:CE:=(⟨0,0,0,[],[]⟩,zC)
def entE (E:List CE) (r:Pr):CE:=(E.find? fun p=>p.1.ref==r).getD zE
theorem entE_of {E:List CE} {r:Pr} (h:r∈E.map (·.1.ref)):entE E r∈E∧(entE E r).1.ref=r∧entV (ents E) r=(entE E r).2:=by
 cases hf:E.find? fun p=>p.1.ref==r with
 | none=>
  obtain⟨p,hp,e⟩:=List.mem_map.1 h;have:=List.find?_eq_none.1 hf p hp;simp[e] at this
 | some p=>
  have h1:=List.mem_of_find?_eq_some hf;have h2:=List.find?_some hf;have e:entE E r=p:=by unfold entE;rw[hf];rfl
  rw[e];refine⟨h1,by simpa using h2,?_⟩;unfold entV;rw[lk_find,hf];rfl
def toCX (p:CE):CX:=⟨p.1,(vcells p.2).getD 3 zC,(vcells p.2).getD 4 zC⟩
theorem toCX_val {w:World} {p:CE} (h:IsChg w p.2 p.1):(toCX p).val=p.2∧(toCX p).c=p.1∧CV p.2∧(toCX p).cells=vcells p.2:=by
 obtain⟨ud,uo,l,h1,_,_,_,⟨a,k,rfl,_⟩,⟨a',k',rfl,_⟩,_⟩:=h;unfold toCX;rw[h1];exact⟨rfl,rfl,⟨_,_,_,_,_,_,_,_,_,rfl⟩,rfl⟩
theorem rowC_chgs {B:Nat} {w:World} {v:Value} {es:List CE} (h:RowC B v (es.map (·.2)) w) (hl:es.length≤1000000) (hc:∀p∈es,IsChg w p.2 p.1):IsChgs w v (es.map toCX):=by
 have hcv:∀u∈es.map (·.2),CV u:=fun u hu=>by
  obtain⟨p,hp,rfl⟩:=List.mem_map.1 hu;exact(toCX_val (hc p hp)).2.2.1
 have hin:∀x∈es.map toCX,x.In w:=fun x hx=>by
  obtain⟨p,hp,rfl⟩:=List.mem_map.1 hx;have:=toCX_val (hc p hp);unfold CX.In;rw[this.1,this.2.1];exact hc p hp
 rcases h.2 with⟨rfl,h0⟩ | ⟨g,cap,cur,rfl,hg,hh,hcp,hm,hz,ht⟩
 ·have he:es=[]:=by simpa using h0
  subst he;exact⟨none,0,rfl,by simp,by simp,by simp,fun e=>absurd rfl e⟩
 ·rw[List.length_map] at hcp;refine⟨some ⟨g,0,none⟩,cap,by simp,by simpa using hcp,by simpa using hl,hin,fun _=>⟨g,0,rfl,lt_of_heap hh,fun i hi j hj=>?_⟩⟩;have hi':i<es.length:=by simpa using hi
  rw[Nat.zero_add,h.cellAt (i*5+j) (by rw[List.length_map];omega),flat_at hcv i (by simpa using hi') j hj];simp only[List.getElem_map];rw[(toCX_val (hc es[i] (List.getElem_mem hi'))).2.2.2]
theorem flat_set {us:List Value} (h:∀u∈us,CV u) (k:Nat) (hk:k<us.length) (u x:Value) (hu:vcells u=(vcells us[k]).set 4 x):(us.set k u).flatMap vcells=(us.flatMap vcells).set (k*5+4) x:=by
 induction us generalizing k with
 | nil=>simp at hk
 | cons y us ih=>
  have h5:=(cv_cells (h y (List.mem_cons_self ..))).1;cases k with
  | zero=>
   simp only[List.getElem_cons_zero] at hu;rw[List.set_cons_zero,List.flatMap_cons,List.flatMap_cons,hu,List.set_append_left _ _ (by omega)]
  | succ k=>
   simp only[List.getElem_cons_succ] at hu;rw[List.set_cons_succ,List.flatMap_cons,List.flatMap_cons,ih (fun z hz=>h z (List.mem_cons_of_mem _ hz)) k (by simpa using hk) hu,List.set_append_right _ _ (by omega)];congr 2;omega
theorem rowC_set {B g cap n:Nat} {w:World} {us:List Value} (h:RowC B (.slice (some ⟨g,0,none⟩) n cap) us w) (hc:∀u∈us,CV u) (k:Nat) (hk:k<us.length) (u x:Value) (hu:vcells u=(vcells us[k]).set 4 x):RowC B (.slice (some ⟨g,0,none⟩) n cap) (us.set k u) (w.setCell ⟨g,k*5+4,none⟩ x):=by
 unfold RowC;rw[List.length_set,flat_set hc k hk u x hu];refine⟨by rw[List.length_set];exact h.1,?_⟩;rcases h.2 with⟨e,h0⟩ | ⟨g',cap',cur,e,hg,hh,hcp,hm,hz,ht⟩
 ·omega
 ·have e1:=Value.slice.inj e;have e2:g=g':=by have:=Option.some.inj e1.1;simpa using this
  subst e2;have e3:=e1.2.2;subst e3;refine Or.inr ⟨g,cap,cur.setIfInBounds (k*5+4) x,e,hg,set_at hh _ _,hcp,hm,by simpa using hz,?_⟩;rw[Array.toList_setIfInBounds,List.take_set,ht]
theorem keepF {w W W':World} {ca cs ct:Int} (h:W.cell? ⟨w.heap.size,0,none⟩=some (.int .i64 ca)∧W.cell? ⟨w.heap.size,1,none⟩=some (.int .i64 cs)∧W.cell? ⟨w.heap.size,2,none⟩=some (.int .i64 ct)) (hb:Below W.heap.size W W'):W'.cell? ⟨w.heap.size,0,none⟩=some (.int .i64 ca)∧W'.cell? ⟨w.heap.size,1,none⟩=some (.int .i64 cs)∧W'.cell? ⟨w.heap.size,2,none⟩=some (.int .i64 ct):=by
 obtain⟨h0,h1,h2⟩:=h;exact⟨(hb.cell (cell_in h0)).trans h0,(hb.cell (cell_in h1)).trans h1,(hb.cell (cell_in h2)).trans h2⟩
theorem ops_take {w:World} {a:Option Addr} {c n:Nat} {l:List OV} (h:IsOps w (.slice a n c) l) (k:Nat) (hk:k≤l.length):IsOps w (.slice a k c) (l.take k):=by
 obtain⟨a',c',e,h1,h2,hr,h3⟩:=h;obtain⟨rfl,hn,rfl⟩:=Value.slice.inj e;have hlen:(l.take k).length=k:=by rw[List.length_take];omega
 refine⟨a,c,by rw[hlen],by rw[hlen];omega,by rw[hlen];omega,fun q hq=>hr q (List.mem_of_mem_take hq),fun hne=>?_⟩;obtain⟨b,off,e1,h4,h5⟩:=h3 (fun e=>hne (by rw[e];simp));exact⟨b,off,e1,h4,fun i hi j hj=>by rw[h5 i (by rw[hlen] at hi;omega) j hj,List.getElem_take]⟩
theorem nodup_ents {w:World} {g h q:Nat} {EH EW:List CE} (B:Bk w g h q EH EW):(EH.map (·.1.ref)).Nodup∧(EW.map (·.1.ref)).Nodup:=by
 have h1:=B.book.has.nd;have h2:=B.book.wait.nd;rw[ents_keys] at h1 h2;exact⟨h1,h2⟩
def dropE (E:List CE) (r:Pr):List CE:=E.filter fun p=>p.1.ref !=r
theorem ents_drop (E:List CE) (r:Pr):ents (dropE E r)=(ents E).filter fun q=>q.1 !=r:=by
 unfold ents dropE;rw[List.filter_map];rfl
theorem dropE_len (E:List CE) (r:Pr) (h:r∈E.map (·.1.ref)):(dropE E r).length<E.length:=by
 have:∃p∈E,¬(p.1.ref !=r)=true:=by
  obtain⟨p,hp,e⟩:=List.mem_map.1 h;exact⟨p,hp,by simp[e]⟩
 rcases Nat.lt_or_ge (dropE E r).length E.length with h1 | h1
 ·exact h1
 ·have h2:=List.length_filter_le (fun p:CE=>p.1.ref !=r) E;have h3:(E.filter fun p:CE=>p.1.ref !=r).length=E.length:=Nat.le_antisymm h2 h1;obtain⟨p,hp,hn⟩:=this;exact absurd ((List.length_filter_eq_length_iff.1 h3) p hp) hn
theorem Bk.drop {w w':World} {g h q:Nat} {EH EW:List CE} (B:Bk w g h q EH EW) (r:Pr) (hM:MapL w' q ((ents EW).filter fun x=>x.1 !=r)) (ht:w.mapTurned w' q):Bk w' g h q EH (dropE EW r):=by
 have kp:=Kp.turned ht;have nc:NoCells w [q]:=noCells_map B.book.wait;refine⟨⟨kp.heap B.book.box ?_,B.book.has.kp kp (by simpa using B.book.ne),by rw[ents_drop];exact hM,B.book.ne⟩,fun p hp=>?_,B.clo,?_,?_⟩
 ·intro e;simp at e;have h1:=nc g (by simp[e]) 0;rw[cLo B.book.box 0] at h1;cases h1
 ·have hp':p∈EH++EW:=by
   rcases List.mem_append.1 hp with e | e
   ·exact List.mem_append_left _ e
   ·exact List.mem_append_right _ (List.mem_filter.1 e).1
  exact⟨(B.chgs p hp').1.keep kp nc,(B.chgs p hp').2⟩
 ·have:=List.length_filter_le (fun p:CE=>p.1.ref !=r) EW;have:=B.many;unfold dropE;omega
 ·intro x hx;obtain⟨p,hp,rfl⟩:=List.mem_map.1 hx;exact B.dis _ (List.mem_map.2 ⟨p,(List.mem_filter.1 hp).1,rfl⟩)
theorem Bk.come {w w':World} {g h q:Nat} {EH EW:List CE} (B:Bk w g h q EH EW) (c:Chg) (v:Value) (hv:IsChgW w v c) (hc:chk c=0) (hd:∀d∈c.deps,d∈EH.map (·.1.ref)) (hn:c.ref∉EH.map (·.1.ref)) (hn':c.ref∉EW.map (·.1.ref)) (hm:EH.length+EW.length<120) (hM:MapL w' h (putL (ents EH) c.ref v)) (ht:w.mapTurned w' h):Bk w' g h q (EH++[(c,v)]) EW:=by
 have kp:=Kp.turned ht;have nc:NoCells w [h]:=noCells_map B.book.has;have hl:lk (ents EH) c.ref=none:=by
  cases hk:lk (ents EH) c.ref with
  | none=>rfl
  | some u=>exact absurd (mem_keys.2 (by rw[hk];rfl)) hn
 refine⟨⟨kp.heap B.book.box ?_,?_,B.book.wait.kp kp (by simpa using B.book.ne.symm),B.book.ne⟩,fun p hp=>?_,clo_snoc B.clo hd,?_,?_⟩
 ·intro e;simp at e;have h1:=nc g (by simp[e]) 0;rw[cLo B.book.box 0] at h1;cases h1
 ·rw[ents_append];rw[putL_new hl] at hM;exact hM
 ·have hp':p∈EH++EW∨p=(c,v):=by
   rcases List.mem_append.1 hp with e | e
   ·rcases List.mem_append.1 e with e | e
    ·exact Or.inl (List.mem_append_left _ e)
    ·exact Or.inr (List.mem_singleton.1 e)
   ·exact Or.inl (List.mem_append_right _ e)
  rcases hp' with e | rfl
  ·exact⟨(B.chgs p e).1.keep kp nc,(B.chgs p e).2⟩
  ·exact⟨hv.keep kp nc,hc⟩
 ·simp;omega
 ·intro x hx e;rw[List.map_append] at e;rcases List.mem_append.1 e with e | e
  ·exact B.dis x hx e
  ·simp at e;exact hn' (by rw[←e];exact hx)
theorem Bk.wait' {w w':World} {g h q:Nat} {EH EW:List CE} (B:Bk w g h q EH EW) (c:Chg) (v:Value) (hv:IsChgW w v c) (hc:chk c=0) (hn:c.ref∉EW.map (·.1.ref)) (hn':c.ref∉EH.map (·.1.ref)) (hm:EH.length+EW.length<120) (hM:MapL w' q (putL (ents EW) c.ref v)) (ht:w.mapTurned w' q):Bk w' g h q EH (EW++[(c,v)]):=by
 have kp:=Kp.turned ht;have nc:NoCells w [q]:=noCells_map B.book.wait;have hl:lk (ents EW) c.ref=none:=by
  cases hk:lk (ents EW) c.ref with
  | none=>rfl
  | some u=>exact absurd (mem_keys.2 (by rw[hk];rfl)) hn
 refine⟨⟨kp.heap B.book.box ?_,B.book.has.kp kp (by simpa using B.book.ne),?_,B.book.ne⟩,fun p hp=>?_,B.clo,?_,?_⟩
 ·intro e;simp at e;have h1:=nc g (by simp[e]) 0;rw[cLo B.book.box 0] at h1;cases h1
 ·rw[ents_append];rw[putL_new hl] at hM;exact hM
 ·have hp':p∈EH++EW∨p=(c,v):=by
   rcases List.mem_append.1 hp with e | e
   ·exact Or.inl (List.mem_append_left _ e)
   ·rcases List.mem_append.1 e with e | e
    ·exact Or.inl (List.mem_append_right _ e)
    ·exact Or.inr (List.mem_singleton.1 e)
  rcases hp' with e | rfl
  ·exact⟨(B.chgs p e).1.keep kp nc,(B.chgs p e).2⟩
  ·exact⟨hv.keep kp nc,hc⟩
 ·simp;omega
 ·intro x hx e;rw[List.map_append] at hx;rcases List.mem_append.1 hx with hx | hx
  ·exact B.dis x hx e
  ·simp at hx;exact hn' (by rw[←hx];exact e)
theorem step_delete_known {ops:Array Oper} {o:Oper} {a:Act} {w:World} {K:Act→World→Prop} {Q:Exit→Act→World→Prop} {E:Prop} (hgd:o.guard=none) (s x:Operand) (T k:TypeId)
 (ho:o.op=.call {callee:=.builtin .delete,args:=#[s,x],argTypes:=#[T,k]}) (v u r:Value) (w':World) (hs:a.eval s=v) (hx:a.eval x=u)
 (hrun:(Builtin.delete_ #[T,k] o.type #[v,u]).run Tryz.prog w=.ok r w') (hK:K (a.put o.dst r) w'):if Region.wanted o (yielded ops a.tmps)=true then Oper.wp Tryz.prog o a w K Q else E:=by
 have hw:Region.wanted o (yielded ops a.tmps)=true:=by simp[Region.wanted,hgd]
 rw[if_pos hw];unfold Oper.wp;simp[execOp,ho,resolve,invoke,builtin,hs,hx,hrun,Result.andThen];exact hK
theorem keepT {W W':World} {g i m rb xb dn dc on oc:Nat} {ca cs ct:Int} {da oa:Option Addr} (h:W.cell? ⟨g,i,none⟩=some (.map (some m))∧W.cell? ⟨rb,0,none⟩=some (.int .i64 ca)∧W.cell? ⟨rb,1,none⟩=some (.int .i64 cs)∧W.cell? ⟨xb,0,none⟩=some (.int .i64 ca)∧W.cell? ⟨xb,1,none⟩=some (.int .i64 cs)∧W.cell? ⟨xb,2,none⟩=some (.int .i64 ct)∧W.cell? ⟨xb,3,none⟩=some (.slice da dn dc)∧W.cell? ⟨xb,4,none⟩=some (.slice oa on oc)) (hb:Below W.heap.size W W'):W'.cell? ⟨g,i,none⟩=some (.map (some m))∧W'.cell? ⟨rb,0,none⟩=some (.int .i64 ca)∧W'.cell? ⟨rb,1,none⟩=some (.int .i64 cs)∧W'.cell? ⟨xb,0,none⟩=some (.int .i64 ca)∧W'.cell? ⟨xb,1,none⟩=some (.int .i64 cs)∧W'.cell? ⟨xb,2,none⟩=some (.int .i64 ct)∧W'.cell? ⟨xb,3,none⟩=some (.slice da dn dc)∧W'.cell? ⟨xb,4,none⟩=some (.slice oa on oc):=by
 obtain⟨h0,h1,h2,h3,h4,h5,h6,h7⟩:=h;exact⟨(hb.cell (cell_in h0)).trans h0,(hb.cell (cell_in h1)).trans h1,(hb.cell (cell_in h2)).trans h2,(hb.cell (cell_in h3)).trans h3,(hb.cell (cell_in h4)).trans h4,(hb.cell (cell_in h5)).trans h5,(hb.cell (cell_in h6)).trans h6,(hb.cell (cell_in h7)).trans h7⟩
theorem kept_cell {S:List Nat} {W W':World} {b o:Nat} {v:Value} (h:W.cell? ⟨b,o,none⟩=some v) (kp:Kp S W W') (nc:NoCells W S):W'.cell? ⟨b,o,none⟩=some v:=
 (kp.cell (p:=⟨b,o,none⟩) (cell_in h) (fun e=>by have:=nc b e o;rw[h] at this;cases this)).trans h
theorem keepP {S:List Nat} {W W':World} {g i m rb xb dn dc on oc:Nat} {ca cs ct:Int} {da oa:Option Addr} (h:W.cell? ⟨g,i,none⟩=some (.map (some m))∧W.cell? ⟨rb,0,none⟩=some (.int .i64 ca)∧W.cell? ⟨rb,1,none⟩=some (.int .i64 cs)∧W.cell? ⟨xb,0,none⟩=some (.int .i64 ca)∧W.cell? ⟨xb,1,none⟩=some (.int .i64 cs)∧W.cell? ⟨xb,2,none⟩=some (.int .i64 ct)∧W.cell? ⟨xb,3,none⟩=some (.slice da dn dc)∧W.cell? ⟨xb,4,none⟩=some (.slice oa on oc)) (kp:Kp S W W') (nc:NoCells W S):W'.cell? ⟨g,i,none⟩=some (.map (some m))∧W'.cell? ⟨rb,0,none⟩=some (.int .i64 ca)∧W'.cell? ⟨rb,1,none⟩=some (.int .i64 cs)∧W'.cell? ⟨xb,0,none⟩=some (.int .i64 ca)∧W'.cell? ⟨xb,1,none⟩=some (.int .i64 cs)∧W'.cell? ⟨xb,2,none⟩=some (.int .i64 ct)∧W'.cell? ⟨xb,3,none⟩=some (.slice da dn dc)∧W'.cell? ⟨xb,4,none⟩=some (.slice oa on oc):=by
 obtain⟨h0,h1,h2,h3,h4,h5,h6,h7⟩:=h;exact⟨kept_cell h0 kp nc,kept_cell h1 kp nc,kept_cell h2 kp nc,kept_cell h3 kp nc,kept_cell h4 kp nc,kept_cell h5 kp nc,kept_cell h6 kp nc,kept_cell h7 kp nc⟩
theorem rRefC_any (a s t:Int) (d:Option Addr) (n c:Nat) (o:Option Addr) (m e:Nat) (w:World):
 Calls Tryz.prog 50 #[.agg #[.int .i64 a,.int .i64 s,.int .i64 t,.slice d n c,.slice o m e]] w fun x w'=>x=.returned (refV (a,s))∧Below w.heap.size w w':=by
 go_enter Tryz.func50,Tryz.ntmps50
 go_wp2;go_returns;exact⟨rfl,(bAl _ _).alloc (by simp) _⟩
theorem rHas_any (v:Value) (l:List Pr) (r:Pr) (w:World) (hv:IsPairs w v l):
 Calls Tryz.prog 17 #[v,refV r] w fun e w'=>e=.returned (.bool (decide (r∈l)))∧Below w.heap.size w w':=by
 obtain⟨a,cap,rfl,h1,h2,hr,h3⟩:=hv;have H3:Hid (l≠[]→∃b off,a=some ⟨b,off,none⟩∧_):=h3;have HZ:Hid (l.length≤8796093022208):=h2;have b0:=bAl w (.cells #[.int .i64 r.1,.int .i64 r.2] 45);have n0:=heap_alloc_new w (.cells #[.int .i64 r.1,.int .i64 r.2] 45);have HA:=hY2 b0 n0;clear h3 hr h1 h2 b0 n0;have HE:=eqR;obtain⟨rb,hrb⟩:=gNz (decide (r∈l):Bool);rw[hrb];have HR:Hid (decide (r∈l)=rb):=hrb;clear hrb;go_enter Tryz.func17,Tryz.ntmps17
 go_wp2_with fail;go_loopw [5] (fun i wr=>∃k:Nat,k≤l.length∧i=.int .i64 k∧Hid ((∀j (hj:j<l.length),j<k→l[j]≠r)∧Below w.heap.size w wr∧wr.heap[w.heap.size]?=some (.cells #[.int .i64 r.1,.int .i64 r.2] 45))) (fun i _=>l.length - (RowKit.intOf i).toNat)
 case atStart=>exact⟨0,Nat.zero_le _,rfl,fun j _ hj=>absurd hj (Nat.not_lt_zero _),HA.out⟩
 case round=>
  obtain⟨k,hk,rfl,hR⟩:=hrel;by_cases hlt:k<l.length
  ·obtain⟨b,off,rfl,h4,h5⟩:=H3.out (fun e=>by rw[e] at hlt;simp at hlt);have x0:wr.cell? ⟨b,off+k*2,none⟩=some (.int .i64 l[k].1):=by rw[hR.out.2.1.cell (p:=⟨b,off+k*2,none⟩) h4];exact(h5 k hlt).1
   have x1:wr.cell? ⟨b,off+k*2+1,none⟩=some (.int .i64 l[k].2):=by rw[hR.out.2.1.cell (p:=⟨b,off+k*2+1,none⟩) h4];exact(h5 k hlt).2
   obtain⟨y0,y1,-⟩:=cLs hR.out.2.2;have g1:(k:Int)<l.length:=by omega
   have g2:(k:Int)<8796093022208:=by have:=HZ.out;omega
   have g3:(0:Int)≤k:=by omega
   obtain⟨p,hp⟩:=gNz (l[k]:Pr);have HP:Hid (∀h:k<l.length,l[k]=p):=fun _=>hp;rw[hp] at x0 x1;have EQ:=HE p r;obtain⟨sb,hsb⟩:=gNz (samePr p r:Bool);rw[hsb] at EQ;have HS:Hid (samePr p r=sb):=hsb;have HK:Hid (k<l.length):=hlt;clear h5 hk hlt hp hsb HE;cases sb with
   | true=>
    have HZ2:Hid (rb=true):=by
     show _=_;rw[←HR.out];have h1:=(samePr_iff p r).1 HS.out;have h2:=HP.out HK.out;rw[decide_eq_true_iff,←h1,←h2];exact List.getElem_mem _
    go_wp2;go_quiet (fail);go_wp2;go_ret;exact⟨by rw[HZ2.out];rfl,below_drew hR.out.2.1 nq⟩
   | false=>
    go_wp2;go_quiet (fail);go_wp2;go_roundw
    case rel=>
     refine⟨k+1,HK.out,by go_num,fun j hj hjk=>?_,below_drew hR.out.2.1 nq,hR.out.2.2⟩;rcases Nat.lt_or_ge j k with e | e
     ·exact hR.out.1 j hj e
     ·obtain rfl:j=k:=by omega
      rw[HP.out HK.out];exact samePr_no HS.out
    case measure=>simp[RowKit.intOf];have:=HK.out;omega
  ·have hke:k=l.length:=by omega
   have HZ2:Hid (rb=false):=by
    show _=_;rw[←HR.out,decide_eq_false_iff_not];intro e;obtain⟨j,hj,ej⟩:=List.getElem_of_mem e;exact hR.out.1 j hj (by omega) ej
   clear hlt hk;subst hke;go_wp2;go_ret;exact⟨by rw[HZ2.out];rfl,hR.out.2.1⟩
end Go.Proofs.YtamhlgflbacjgaaGreat
