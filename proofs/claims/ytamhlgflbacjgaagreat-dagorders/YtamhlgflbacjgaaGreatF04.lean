/-
  What is proved: as each theorem says.
  Conditions: as each theorem says.
-/
import Derived.Test.YtamhlgflbacjgaaGreatF00
import Derived.Test.YtamhlgflbacjgaaGreatF03
import Derived.Shelf.Abstract
import Derived.Deep.LoopGhost
set_option maxRecDepth 100000
set_option maxHeartbeats 16000000
namespace Go.Proofs.YtamhlgflbacjgaaGreat
open Go.RowKit Go.Maps
def idxP (p:Pr→Bool):List Pr→Int
 | []=> -1
 | x::l=>if p x then 0 else if idxP p l= -1 then -1 else idxP p l+1
def PredR (f:FuncId) (lb:Array Value) (p:Pr→Bool) (l:List Pr) (w:World):Prop:=
 ∀r∈l,∀W,Below w.heap.size w W→Calls Tryz.prog f (#[refV r]++lb) W fun e W'=>e=.returned (.bool (p r))∧Below W.heap.size W W'
theorem idxP_range (p:Pr→Bool) (l:List Pr): -1≤idxP p l∧idxP p l<l.length:=by
 induction l with
 | nil=>simp[idxP]
 | cons x l ih=>
  simp only[idxP,List.length_cons];split
  ·omega
  ·split <;> omega
theorem idxP_none {p:Pr→Bool} {l:List Pr}:idxP p l= -1↔∀x∈l,p x=false:=by
 induction l with
 | nil=>simp[idxP]
 | cons x l ih=>
  have h1:=idxP_range p l;simp only[idxP];split
  ·rename_i h;simp[h]
  ·rename_i h;split
   ·rename_i e;simp only[List.mem_cons,forall_eq_or_imp,true_iff];exact⟨by simpa using h,ih.1 e⟩
   ·rename_i e;simp only[List.mem_cons,forall_eq_or_imp];refine⟨fun e2=>by omega,fun e2=>absurd (ih.2 e2.2) e⟩
theorem idxP_at (p:Pr→Bool) (l:List Pr) (k:Nat) (hk:k<l.length) (hno:∀j (hj:j<k),p (l[j]'(by omega))=false) (hy:p l[k]=true):idxP p l=k:=by
 induction l generalizing k with
 | nil=>simp at hk
 | cons x l ih=>
  cases k with
  | zero=>simp only[List.getElem_cons_zero] at hy;simp[idxP,hy]
  | succ k=>
   have h0:=hno 0 (by omega);simp only[List.getElem_cons_zero] at h0;have:=ih k (by simpa using hk) (fun j hj=>by have:=hno (j+1) (by omega);simpa using this) (by simpa using hy);simp only[idxP,h0];rw[this];rw[if_neg (by simp),if_neg (by omega)];omega
theorem idx_any (f:FuncId) (eg:∀args w,(callFunc f args).run Tryz.prog w=.ok (.enter f args) w) (c:Value) (p:Pr→Bool) (v:Value) (l:List Pr) (w:World) (hv:IsPairs w v l) (hp:PredR f #[c] p l w):
 Calls Tryz.prog 41 #[v,.func (Fn.func f) #[] #[c]] w fun e w'=>e=.returned (.int .i64 (idxP p l))∧Below w.heap.size w w':=by
 obtain⟨a,cap,rfl,h1,h2,hr,h3⟩:=hv;have H3:Hid (l≠[]→∃b off,a=some ⟨b,off,none⟩∧_):=h3;have HP:Hid (PredR f #[c] p l w):=hp;have HZ:=hY2 h1 h2;clear h3 hp hr h1 h2;go_enter Tryz.func41,Tryz.ntmps41
 go_wp2_with fail;go_loopw [8] (fun i wr=>∃k:Nat,k≤l.length∧i=.int .i64 k∧Hid (∀j (hj:j<k) (hl:j<l.length),p l[j]=false)∧Below w.heap.size w wr) (fun i _=>l.length - (RowKit.intOf i).toNat)
 case atStart=>exact⟨0,Nat.zero_le _,rfl,fun j hj=>absurd hj (Nat.not_lt_zero _),Below.refl _ _⟩
 case round=>
  obtain⟨k,hk,rfl,hno,hbel⟩:=hrel;by_cases hlt:k<l.length
  ·obtain⟨b,off,rfl,h4,h5⟩:=H3.out (fun e=>by rw[e] at hlt;simp at hlt);have x0:wr.cell? ⟨b,off+k*2,none⟩=some (.int .i64 l[k].1):=by rw[hbel.cell (p:=⟨b,off+k*2,none⟩) h4];exact(h5 k hlt).1
   have x1:wr.cell? ⟨b,off+k*2+1,none⟩=some (.int .i64 l[k].2):=by rw[hbel.cell (p:=⟨b,off+k*2+1,none⟩) h4];exact(h5 k hlt).2
   have g1:(k:Int)<l.length:=by omega
   have g2:(k:Int)<8796093022208:=by have:=HZ.out;omega
   have E:=HP.out l[k] (List.getElem_mem hlt) wr hbel;obtain⟨q,hq⟩:=gNz (l[k]:Pr);have HK:Hid (k<l.length):=hlt;have HQ:Hid (∀h:k<l.length,l[k]=q):=fun _=>hq;rw[hq] at x0 x1 E;clear hq;have HB:Hid (Below w.heap.size w wr):=hbel;clear h5 hk hbel hlt;cases hpq:p q with
   | true=>
    rw[hpq] at E;go_wp2_with fail;go_fit E;rintro e w2 ⟨rfl,b2⟩;have HB2:Hid (Below w.heap.size w w2):=HB.out.trans (b2.mono HB.out.size);clear b2 E;go_wp2;go_ret;have e1:=idxP_at p l k HK.out (fun j hj=>hno.out j hj (by have:=HK.out;omega)) (by rw[HQ.out HK.out];exact hpq);exact⟨by rw[e1];rfl,HB2.out⟩
   | false=>
    rw[hpq] at E;go_wp2_with fail;go_fit E;rintro e w2 ⟨rfl,b2⟩;have HB2:Hid (Below w.heap.size w w2):=HB.out.trans (b2.mono HB.out.size);clear b2 E;go_wp2;go_roundw
    case rel=>
     refine⟨k+1,HK.out,by go_num,fun j hj hl=>?_,HB2.out⟩;rcases Nat.lt_or_ge j k with e | e
     ·exact hno.out j e hl
     ·obtain rfl:j=k:=by omega
      rw[HQ.out HK.out];exact hpq
    case measure=>simp[RowKit.intOf];have:=HK.out;omega
  ·have hke:k=l.length:=by omega
   subst hke;have e1:idxP p l= -1:=idxP_none.2 (fun x hx=>by
    obtain⟨j,hj,rfl⟩:=List.getElem_of_mem hx;exact hno.out j hj hj)
   have HE:Hid (idxP p l= -1):=e1;have HB:Hid (Below w.heap.size w wr):=hbel;clear e1 hlt hk hno hbel;go_wp2;go_ret;exact⟨by rw[HE.out];rfl,HB.out⟩
theorem contains_any (f:FuncId) (eg:∀args w,(callFunc f args).run Tryz.prog w=.ok (.enter f args) w) (c:Value) (p:Pr→Bool) (v:Value) (l:List Pr) (w:World) (hv:IsPairs w v l) (hp:PredR f #[c] p l w):
 Calls Tryz.prog 39 #[v,.func (Fn.func f) #[] #[c]] w fun e w'=>e=.returned (.bool (l.any p))∧Below w.heap.size w w':=by
 have E:=idx_any f eg c p v l w hv hp;have hr:=idxP_range p l;have HR:Hid ((l.any p=true↔0≤idxP p l)):=by
  show _↔_;constructor
  ·intro h;have:idxP p l≠-1:=fun e=>by
    obtain⟨x,hx,hy⟩:=List.any_eq_true.1 h;rw[idxP_none.1 e x hx] at hy;cases hy
   omega
  ·intro h;cases ha:l.any p with
   | true=>rfl
   | false=>
    have:idxP p l= -1:=idxP_none.2 (fun x hx=>by
     cases hpx:p x with
     | false=>rfl
     | true=>rw[List.any_eq_true.2 ⟨x,hx,hpx⟩] at ha;cases ha)
    omega
 obtain⟨ix,hix⟩:∃x:Int,Hid (x=idxP p l):=⟨_,rfl⟩
 rw[←hix.out] at E HR;obtain⟨a,cap,rfl,_⟩:=hv;clear hr hp;by_cases h0:0≤ix
 ·go_enter Tryz.func39,Tryz.ntmps39
  go_wp2_with fail;go_fit E;rintro e w1 ⟨rfl,b1⟩;go_wp2;go_ret;exact⟨by rw[HR.out.2 h0];simp,b1⟩
 ·go_enter Tryz.func39,Tryz.ntmps39
  go_wp2_with fail;go_fit E;rintro e w1 ⟨rfl,b1⟩;go_wp2;go_ret;have:l.any p=false:=by
   cases ha:l.any p with
   | false=>rfl
   | true=>exact absurd (HR.out.1 ha) (by omega)
  exact⟨by rw[this];simp[h0],b1⟩
theorem heap_alloc_old {w:World} {b:Nat} {o:Obj} (h:w.heap[b]?=some o) (q:Obj):(w.alloc q).heap[b]?=some o:=
 (bAl w q).block b (lt_of_heap h) |>.trans h
theorem heap_alloc_new (w:World) (o:Obj):(w.alloc o).heap[w.heap.size]?=some o:=(MapKept.heap_alloc w o).1
theorem left_any (g h q x:Nat) (LH LW:List (Pr×Value)) (r:Pr) (w:World) (B:BookAt w g h q LH LW) (hx:w.heap[x]?=some (.cells #[.pointer (some ⟨g,0,none⟩)] 25)) (hr:R64 r) (hC:∀q∈LH,CV q.2):
 Calls Tryz.prog 73 #[refV r,.pointer (some ⟨x,0,none⟩)] w fun e w'=>e=.returned (.bool (!(lk LH r).isSome))∧Below w.heap.size w w':=by
 have b0:=bAl w (.cells #[.int .i64 r.1,.int .i64 r.2] 45);have E:=has_any g h q LH LW r (w.alloc (.cells #[.int .i64 r.1,.int .i64 r.2] 45)) (B.below b0) hr hC;have c0:w.cell? ⟨x,0,none⟩=some (.pointer (some ⟨g,0,none⟩)):=cLo hx 0;have hz:=lt_of_heap hx;have HB:Hid (Below w.heap.size w (w.alloc (.cells #[.int .i64 r.1,.int .i64 r.2] 45))):=b0;clear b0 B hx hC hr;obtain⟨ib,HI⟩:∃b:Bool,Hid (b=(lk LH r).isSome):=⟨_,rfl⟩
 rw[←HI.out] at E ⊢;go_enter Tryz.func73,Tryz.ntmps73
 go_wp2_with fail;go_fit E;rintro e w1 ⟨rfl,b1⟩;go_wp2;go_ret;exact⟨rfl,HB.out.trans (b1.mono (by simp))⟩
def hasL (L:List (Pr×Value)) (l:List Pr):Bool:=l.all fun r=>(lk L r).isSome
theorem hasAll_any (g h q:Nat) (LH LW:List (Pr×Value)) (v:Value) (l:List Pr) (w:World) (B:BookAt w g h q LH LW) (hv:IsPairs w v l) (hC:∀q∈LH,CV q.2):
 Calls Tryz.prog 33 #[.pointer (some ⟨g,0,none⟩),v] w fun e w'=>e=.returned (.bool (hasL LH l))∧Below w.heap.size w w':=by
 have b0:=bAl w (.cells #[.pointer (some ⟨g,0,none⟩)] 25);have hr:∀r∈l,R64 r:=by obtain⟨_,_,_,_,_,hr,_⟩:=hv;exact hr
 have eg:∀args w,(callFunc 73 args).run Tryz.prog w=.ok (.enter 73 args) w:=enters_of Tryz.func73 (by kernel_rfl) rfl;have x0:=heap_alloc_new w (.cells #[.pointer (some ⟨g,0,none⟩)] 25);have E:=contains_any 73 eg (.pointer (some ⟨w.heap.size,0,none⟩)) (fun r=> !(lk LH r).isSome) v l (w.alloc (.cells #[.pointer (some ⟨g,0,none⟩)] 25)) (hv.below b0) (fun r hm W hb=>
  left_any g h q w.heap.size LH LW r W ((B.below b0).below hb) ((Kp.of (S:=[]) hb).heap x0 (by simp)) (hr r hm) hC)
 have HB:Hid (Below w.heap.size w (w.alloc (.cells #[.pointer (some ⟨g,0,none⟩)] 25))):=b0;have e1:hasL LH l= !(l.any fun r=> !(lk LH r).isSome):=by unfold hasL;rw[List.all_eq_not_any_not]
 rw[e1];obtain⟨a,cap,rfl,_⟩:=hv;generalize (l.any fun r=> !(lk LH r).isSome)=ib at *;clear b0 B hC hr x0 eg e1;go_enter Tryz.func33,Tryz.ntmps33
 go_wp2_with fail;go_fit E;rintro e w1 ⟨rfl,b1⟩;go_wp2;go_ret;exact⟨rfl,HB.out.trans (b1.mono (by simp))⟩
theorem refOf_any (a s t:Int) (d:Option Addr) (n c:Nat) (o:Option Addr) (m e:Nat) (w:World):
 Calls Tryz.prog 30 #[.agg #[.int .i64 a,.int .i64 s,.int .i64 t,.slice d n c,.slice o m e]] w fun x w'=>x=.returned (refV (a,s))∧Below w.heap.size w w':=by
 go_enter Tryz.func30,Tryz.ntmps30
 go_wp2;go_returns;exact⟨rfl,(bAl _ _).alloc (by simp) _⟩
def fnd (LH LW:List (Pr×Value)) (r:Pr):Option Value:=(lk LH r).or (lk LW r)
theorem drew_of {B:Nat} {w W:World} (h:Below B w W):Below B w W.drew:=⟨h.os,h.tape,h.output,h.size,h.block⟩
theorem dfind_yes (g h q:Nat) (LH LW:List (Pr×Value)) (r:Pr) (u:Value) (w:World) (B:BookAt w g h q LH LW) (hr:R64 r) (hC:∀q∈LH,CV q.2) (hu:lk LH r=some u):
 Calls Tryz.prog 31 #[.pointer (some ⟨g,0,none⟩),refV r] w fun e w'=>e=.returned (.tuple #[u,.bool true])∧Below w.heap.size w w':=by
 have b0:=(bAl w (.cells #[.int .i64 r.1,.int .i64 r.2] 45)).alloc (by simp) (.cells #[.int .i64 0,.int .i64 0,.int .i64 0,.slice none 0 0,.slice none 0 0] 33);have b1:=(bAl w (.cells #[.int .i64 r.1,.int .i64 r.2] 45))
 have B1:=B.below b0;have x0:=heap_alloc_old (heap_alloc_new w (.cells #[.int .i64 r.1,.int .i64 r.2] 45)) (.cells #[.int .i64 0,.int .i64 0,.int .i64 0,.slice none 0 0,.slice none 0 0] 33);have y0:((w.alloc (.cells #[.int .i64 r.1,.int .i64 r.2] 45)).alloc (.cells #[.int .i64 0,.int .i64 0,.int .i64 0,.slice none 0 0,.slice none 0 0] 33)).heap[w.heap.size+1]?=some (.cells #[.int .i64 0,.int .i64 0,.int .i64 0,.slice none 0 0,.slice none 0 0] 33):=by
  have:=heap_alloc_new (w.alloc (.cells #[.int .i64 r.1,.int .i64 r.2] 45)) (.cells #[.int .i64 0,.int .i64 0,.int .i64 0,.slice none 0 0,.slice none 0 0] 33);simpa using this
 have HA:=hY4 b0 B1 x0 y0;clear B B1 b0 x0 y0 b1;go_enter Tryz.func31,Tryz.ntmps31
 go_wp2;obtain⟨b0,B1,x0,y0⟩:=HA.out;clear HA;generalize (w.alloc (.cells #[.int .i64 r.1,.int .i64 r.2] 45)).alloc (.cells #[.int .i64 0,.int .i64 0,.int .i64 0,.slice none 0 0,.slice none 0 0] 33)=W at *;have c0:W.cell? ⟨g,0,none⟩=some (.map (some h)):=cLo B1.box 0;obtain⟨r0,r1,-⟩:=cLs x0;have hg:=lt_of_heap B1.box;have hx:=lt_of_heap x0;have hy:=lt_of_heap y0;obtain⟨z0,z1,z2,z3,z4,-⟩:=cLs y0;have zf:=fRz y0;have HC0:=hY3 c0 r0 r1;have hl:=MapL.look (w:=W.drew) ⟨B1.has.own,B1.has.nd,B1.has.r64⟩ Tryz.underlying75 (zeroC _) hr;have B2:=B1.has.below (bAl W (.cells #[.int .i64 0,.int .i64 0,.int .i64 0,.slice none 0 0,.slice none 0 0] 33));have hl2:=MapL.look (w:=(W.alloc (.cells #[.int .i64 0,.int .i64 0,.int .i64 0,.slice none 0 0,.slice none 0 0] 33)).drew) ⟨B2.own,B2.nd,B2.r64⟩ Tryz.underlying75 (zeroC _) hr;rw[hu] at hl hl2;obtain⟨va,vs,vt,vd,vn,vc,vo,vm,ve,rfl⟩:=hC _ (lk_mem hu);simp only[Option.getD_some,Option.isSome_some] at hl hl2;have HB:Hid (∀o,Below w.heap.size w (W.alloc o).drew):=fun o=>drew_of (b0.alloc (show w.heap.size≤W.heap.size by omega) o);have HY:Hid (∀o,(W.alloc o).drew.heap[w.heap.size+1]?=some (.cells #[.int .i64 0,.int .i64 0,.int .i64 0,.slice none 0 0,.slice none 0 0] 33)):=fun o=>heap_alloc_old y0 o;clear b0 B1 B2 x0 y0 hC hu;have HN:Hid (∀o,(W.alloc o).drew.heap[W.heap.size]?=some o):=fun o=>heap_alloc_new W o;clear z0 z1 z2 z3 z4 c0 r0 r1 zf;have c0:W.cell? ⟨g,0,none⟩=some (.map (some h)):=HC0.out.1;have r0:=HC0.out.2.1;have r1:=HC0.out.2.2;go_region;all_goals
  clear hl hl2 c0 r0 r1;have y1:=HY.out (.cells #[.int .i64 va,.int .i64 vs,.int .i64 vt,.slice vd vn vc,.slice vo vm ve] 33);have n1:=HN.out (.cells #[.int .i64 va,.int .i64 vs,.int .i64 vt,.slice vd vn vc,.slice vo vm ve] 33);have bb:=HB.out (.cells #[.int .i64 va,.int .i64 vs,.int .i64 vt,.slice vd vn vc,.slice vo vm ve] 33);have hne:w.heap.size+1≠W.heap.size:=by omega
  generalize (W.alloc (.cells #[.int .i64 va,.int .i64 vs,.int .i64 vt,.slice vd vn vc,.slice vo vm ve] 33)).drew=V at *;obtain⟨m0,m1,m2,m3,m4,-⟩:=cLs n1;obtain⟨z0,z1,z2,z3,z4,-⟩:=cLs y1;have zf:=fRz y1;have HX:=hY2 (set_at (set_at (set_at (set_at (set_at y1 0 (.int .i64 va)) 1 (.int .i64 vs)) 2 (.int .i64 vt)) 3 (.slice vd vn vc)) 4 (.slice vo vm ve)) (((((bb.setCell (p:=⟨w.heap.size+1,0,none⟩) (Nat.le_succ _) (.int .i64 va)).setCell (p:=⟨w.heap.size+1,1,none⟩) (Nat.le_succ _) (.int .i64 vs)).setCell (p:=⟨w.heap.size+1,2,none⟩) (Nat.le_succ _) (.int .i64 vt)).setCell (p:=⟨w.heap.size+1,3,none⟩) (Nat.le_succ _) (.slice vd vn vc)).setCell (p:=⟨w.heap.size+1,4,none⟩) (Nat.le_succ _) (.slice vo vm ve):_);clear y1 n1 bb;go_wp2;obtain⟨X,bz⟩:=HX.out;clear HX m0 m1 m2 m3 m4 z0 z1 z2 z3 z4 zf;generalize (((((V.setCell ⟨w.heap.size+1,0,none⟩ (.int .i64 va)).setCell ⟨w.heap.size+1,1,none⟩ (.int .i64 vs)).setCell ⟨w.heap.size+1,2,none⟩ (.int .i64 vt)).setCell ⟨w.heap.size+1,3,none⟩ (.slice vd vn vc)).setCell ⟨w.heap.size+1,4,none⟩ (.slice vo vm ve))=Z at *;obtain⟨q0,q1,q2,q3,q4,-⟩:=cLs X;exact bodyPost_ret (v:=.tuple #[.agg #[.int .i64 va,.int .i64 vs,.int .i64 vt,.slice vd vn vc,.slice vo vm ve],.bool true]) (by simp[results,Tryz.results31,go_sem,q0,q1,q2,q3,q4]) rfl ⟨rfl,bz⟩
theorem dfind_no (g h q:Nat) (LH LW:List (Pr×Value)) (r:Pr) (w:World) (B:BookAt w g h q LH LW) (hr:R64 r) (hC:∀q∈LW,CV q.2) (hu:lk LH r=none):
 Calls Tryz.prog 31 #[.pointer (some ⟨g,0,none⟩),refV r] w fun e w'=>e=.returned (.tuple #[(lk LW r).getD zC,.bool (lk LW r).isSome])∧Below w.heap.size w w':=by
 have b0:=(bAl w (.cells #[.int .i64 r.1,.int .i64 r.2] 45)).alloc (by simp) (.cells #[.int .i64 0,.int .i64 0,.int .i64 0,.slice none 0 0,.slice none 0 0] 33);have B1:=B.below b0;have x0:=heap_alloc_old (heap_alloc_new w (.cells #[.int .i64 r.1,.int .i64 r.2] 45)) (.cells #[.int .i64 0,.int .i64 0,.int .i64 0,.slice none 0 0,.slice none 0 0] 33);have y0:((w.alloc (.cells #[.int .i64 r.1,.int .i64 r.2] 45)).alloc (.cells #[.int .i64 0,.int .i64 0,.int .i64 0,.slice none 0 0,.slice none 0 0] 33)).heap[w.heap.size+1]?=some (.cells #[.int .i64 0,.int .i64 0,.int .i64 0,.slice none 0 0,.slice none 0 0] 33):=by
  have:=heap_alloc_new (w.alloc (.cells #[.int .i64 r.1,.int .i64 r.2] 45)) (.cells #[.int .i64 0,.int .i64 0,.int .i64 0,.slice none 0 0,.slice none 0 0] 33);simpa using this
 have HA:=hY4 b0 B1 x0 y0;clear B B1 b0 x0 y0;obtain⟨va,vs,vt,vd,vn,vc,vo,vm,ve,hv⟩:=cv_look hC r;obtain⟨ib,HI⟩:∃b:Bool,Hid (b=(lk LW r).isSome):=⟨_,rfl⟩
 have HV:Hid _:=hv;rw[←HI.out,hv];clear hC hv;go_enter Tryz.func31,Tryz.ntmps31
 go_wp2;obtain⟨b0,B1,x0,y0⟩:=HA.out;clear HA;generalize (w.alloc (.cells #[.int .i64 r.1,.int .i64 r.2] 45)).alloc (.cells #[.int .i64 0,.int .i64 0,.int .i64 0,.slice none 0 0,.slice none 0 0] 33)=W at *;have c0:W.cell? ⟨g,0,none⟩=some (.map (some h)):=cLo B1.box 0;obtain⟨r0,r1,-⟩:=cLs x0;have hg:=lt_of_heap B1.box;have hx:=lt_of_heap x0;have hy:=lt_of_heap y0;have hl:=MapL.look (w:=W.drew) ⟨B1.has.own,B1.has.nd,B1.has.r64⟩ Tryz.underlying75 (zeroC _) hr;have b2:=bAl W (.cells #[.int .i64 0,.int .i64 0,.int .i64 0,.slice none 0 0,.slice none 0 0] 33);have B2:=B1.below b2;have hl2:=MapL.look (w:=(W.alloc (.cells #[.int .i64 0,.int .i64 0,.int .i64 0,.slice none 0 0,.slice none 0 0] 33)).drew) ⟨B2.has.own,B2.has.nd,B2.has.r64⟩ Tryz.underlying75 (zeroC _) hr;rw[hu] at hl hl2;simp only[Option.getD_none,Option.isSome_none] at hl hl2;have HN:=hY4 B2 (heap_alloc_old x0 (.cells #[.int .i64 0,.int .i64 0,.int .i64 0,.slice none 0 0,.slice none 0 0] 33)) (heap_alloc_old y0 (.cells #[.int .i64 0,.int .i64 0,.int .i64 0,.slice none 0 0,.slice none 0 0] 33)) (b0.alloc (show w.heap.size≤W.heap.size by omega) (.cells #[.int .i64 0,.int .i64 0,.int .i64 0,.slice none 0 0,.slice none 0 0] 33):_);clear b0 B1 B2 b2 x0 y0 hu;go_region;all_goals
  clear hl hl2 c0 r0 r1;obtain⟨B2,x2,y2,bb⟩:=HN.out;clear HN;generalize W.alloc (.cells #[.int .i64 0,.int .i64 0,.int .i64 0,.slice none 0 0,.slice none 0 0] 33)=V at *;obtain⟨-,c0,-⟩:=cLs B2.box;obtain⟨r0,r1,-⟩:=cLs x2;have hg2:=lt_of_heap B2.box;have hx2:=lt_of_heap x2;have hy2:=lt_of_heap y2;have hl:=MapL.look (w:=V.drew.drew) ⟨B2.wait.own,B2.wait.nd,B2.wait.r64⟩ Tryz.underlying75 (zeroC _) hr;have B3:=B2.wait.below (bAl V (.cells #[.int .i64 0,.int .i64 0,.int .i64 0,.slice none 0 0,.slice none 0 0] 33));have hl2:=MapL.look (w:=(V.alloc (.cells #[.int .i64 0,.int .i64 0,.int .i64 0,.slice none 0 0,.slice none 0 0] 33)).drew.drew) ⟨B3.own,B3.nd,B3.r64⟩ Tryz.underlying75 (zeroC _) hr;rw[←HI.out,HV.out] at hl hl2;have HY:Hid (∀o,(V.alloc o).drew.drew.heap[w.heap.size+1]?=some (.cells #[.int .i64 0,.int .i64 0,.int .i64 0,.slice none 0 0,.slice none 0 0] 33)):=fun o=>heap_alloc_old y2 o;have HM:Hid (∀o,(V.alloc o).drew.drew.heap[V.heap.size]?=some o):=fun o=>heap_alloc_new V o;have HB:Hid (∀o,Below w.heap.size w (V.alloc o).drew.drew):=fun o=>drew_of (drew_of (bb.alloc (show w.heap.size≤V.heap.size by omega) o));clear B2 B3 x2 y2 bb;go_wp2;go_region;all_goals
   clear hl hl2 c0 r0 r1;have y1:=HY.out (.cells #[.int .i64 va,.int .i64 vs,.int .i64 vt,.slice vd vn vc,.slice vo vm ve] 33);have n1:=HM.out (.cells #[.int .i64 va,.int .i64 vs,.int .i64 vt,.slice vd vn vc,.slice vo vm ve] 33);have bb:=HB.out (.cells #[.int .i64 va,.int .i64 vs,.int .i64 vt,.slice vd vn vc,.slice vo vm ve] 33);have hne:w.heap.size+1≠V.heap.size:=by omega
   generalize (V.alloc (.cells #[.int .i64 va,.int .i64 vs,.int .i64 vt,.slice vd vn vc,.slice vo vm ve] 33)).drew.drew=U at *;obtain⟨m0,m1,m2,m3,m4,-⟩:=cLs n1;obtain⟨z0,z1,z2,z3,z4,-⟩:=cLs y1;have zf:=fRz y1;have HX:=hY2 (set_at (set_at (set_at (set_at (set_at y1 0 (.int .i64 va)) 1 (.int .i64 vs)) 2 (.int .i64 vt)) 3 (.slice vd vn vc)) 4 (.slice vo vm ve)) (((((bb.setCell (p:=⟨w.heap.size+1,0,none⟩) (Nat.le_succ _) (.int .i64 va)).setCell (p:=⟨w.heap.size+1,1,none⟩) (Nat.le_succ _) (.int .i64 vs)).setCell (p:=⟨w.heap.size+1,2,none⟩) (Nat.le_succ _) (.int .i64 vt)).setCell (p:=⟨w.heap.size+1,3,none⟩) (Nat.le_succ _) (.slice vd vn vc)).setCell (p:=⟨w.heap.size+1,4,none⟩) (Nat.le_succ _) (.slice vo vm ve):_);clear y1 n1 bb;go_wp2;obtain⟨X,bz⟩:=HX.out;clear HX m0 m1 m2 m3 m4 z0 z1 z2 z3 z4 zf;generalize (((((U.setCell ⟨w.heap.size+1,0,none⟩ (.int .i64 va)).setCell ⟨w.heap.size+1,1,none⟩ (.int .i64 vs)).setCell ⟨w.heap.size+1,2,none⟩ (.int .i64 vt)).setCell ⟨w.heap.size+1,3,none⟩ (.slice vd vn vc)).setCell ⟨w.heap.size+1,4,none⟩ (.slice vo vm ve))=Z at *;obtain⟨q0,q1,q2,q3,q4,-⟩:=cLs X;exact bodyPost_ret (v:=.tuple #[.agg #[.int .i64 va,.int .i64 vs,.int .i64 vt,.slice vd vn vc,.slice vo vm ve],.bool ib]) (by simp[results,Tryz.results31,go_sem,q0,q1,q2,q3,q4]) rfl ⟨rfl,bz⟩
theorem find_any (g h q:Nat) (LH LW:List (Pr×Value)) (r:Pr) (w:World) (B:BookAt w g h q LH LW) (hr:R64 r) (hH:∀q∈LH,CV q.2) (hW:∀q∈LW,CV q.2):
 Calls Tryz.prog 31 #[.pointer (some ⟨g,0,none⟩),refV r] w fun e w'=>e=.returned (.tuple #[(fnd LH LW r).getD zC,.bool (fnd LH LW r).isSome])∧Below w.heap.size w w':=by
 unfold fnd;cases hl:lk LH r with
 | none=>simpa using dfind_no g h q LH LW r w B hr hW hl
 | some u=>simpa using dfind_yes g h q LH LW r u w B hr hH hl
structure CX where
 c:Chg
 ud:Value
 uo:Value
abbrev CX.cells (x:CX):List Value:=[.int .i64 x.c.actor,.int .i64 x.c.seq,.int .i64 x.c.start,x.ud,x.uo]
abbrev CX.val (x:CX):Value:=.agg #[.int .i64 x.c.actor,.int .i64 x.c.seq,.int .i64 x.c.start,x.ud,x.uo]
def CX.In (w:World) (x:CX):Prop:=IsChg w x.val x.c
def IsChgs (w:World) (v:Value) (l:List CX):Prop:=
 ∃a cap,v=.slice a l.length cap∧l.length≤cap∧l.length≤1000000∧(∀x∈l,x.In w)∧(l≠[]→∃b off,a=some ⟨b,off,none⟩∧b<w.heap.size∧∀i (h:i<l.length) j,j<5→w.cell? ⟨b,off+i*5+j,none⟩=l[i].cells[j]?)
theorem IsChgs.below {w w':World} {v:Value} {l:List CX} (h:IsChgs w v l) (hb:Below w.heap.size w w'):IsChgs w' v l:=by
 obtain⟨a,cap,rfl,h1,h2,hr,h3⟩:=h;refine⟨a,cap,rfl,h1,h2,fun x hx=>IsChg.below (hr x hx) hb,fun hl=>?_⟩;obtain⟨b,off,rfl,h4,h5⟩:=h3 hl;exact⟨b,off,rfl,Nat.lt_of_lt_of_le h4 hb.size,fun i hi j hj=>by rw[hb.cell (p:=⟨b,off+i*5+j,none⟩) h4];exact h5 i hi j hj⟩
theorem CX.form {w:World} {x:CX} (h:x.In w):(I64 x.c.actor∧I64 x.c.seq∧I64 x.c.start)∧∃(d:Option Addr) (n k:Nat) (o:Option Addr) (m e:Nat),x.ud=.slice d n k∧x.uo=.slice o m e:=by
 obtain⟨ud,uo,l,h1,h2,h3,h4,h5,h6,_⟩:=h;simp at h1;obtain⟨rfl,rfl⟩:=h1;obtain⟨a,c,e1,_⟩:=h5;obtain⟨a',c',e2,_⟩:=h6;exact⟨⟨h2,h3,h4⟩,a,_,c,a',_,c',e1,e2⟩

def samePr (a b:Pr):Bool:=a.1==b.1&&a.2==b.2
theorem samePr_iff (a b:Pr):samePr a b=true↔a=b:=by
 unfold samePr;simp[Prod.ext_iff]
theorem samePr_no {a b:Pr} (h:samePr a b=false):a≠b:=fun e=>by rw[(samePr_iff a b).2 e] at h;cases h
theorem take_eq {l m:List Pr} (k:Nat) (h1:k<l.length) (h2:k<m.length) (h:l.take k=m.take k) (e:l[k]=m[k]):l.take (k+1)=m.take (k+1):=by
 rw[List.take_succ_eq_append_getElem h1,List.take_succ_eq_append_getElem h2,h,e]
theorem eqR (a b:Pr) (w:World):(Op.equalIn 10000 45 (.agg #[.int .i64 a.1,.int .i64 a.2]) (.agg #[.int .i64 b.1,.int .i64 b.2])).run Tryz.prog w=.ok (samePr a b) w:=by
 unfold samePr;go_simp;by_cases h1:a.1=b.1 <;> by_cases h2:a.2=b.2 <;> simp[h1,h2]
theorem equalR_any (v u:Value) (l m:List Pr) (w:World) (hv:IsPairs w v l) (hu:IsPairs w u m):
 Calls Tryz.prog 70 #[v,u] w fun e w'=>(∃b:Bool,e=.returned (.bool b)∧(b=true↔l=m))∧Below w.heap.size w w':=by
 obtain⟨a,cap,rfl,h1,h2,hr,h3⟩:=hv;obtain⟨c,cap2,rfl,k1,k2,kr,k3⟩:=hu;have HA:=hY2 h3 k3;have HZ:Hid (l.length≤8796093022208):=h2;clear h1 h2 hr h3 k1 k2 kr k3;have HE:=eqR;by_cases hlen:l.length=m.length
 ·have HL:Hid (l.length=m.length):=hlen;rw[←hlen];clear hlen;go_enter Tryz.func70,Tryz.ntmps70
  go_wp2_with fail;go_loopw [13] (fun i wr=>∃k:Nat,k≤l.length∧i=.int .i64 k∧Hid (l.take k=m.take k)∧Below w.heap.size w wr) (fun i _=>l.length - (RowKit.intOf i).toNat)
  case atStart=>exact⟨0,Nat.zero_le _,rfl,by show _=_;simp,Below.refl _ _⟩
  case round=>
   obtain⟨k,hk,rfl,hs,hbel⟩:=hrel;by_cases hlt:k<l.length
   ·have hlm:k<m.length:=by have:=HL.out;omega
    obtain⟨b,off,rfl,h4,h5⟩:=HA.out.1 (fun e=>by rw[e] at hlt;simp at hlt);obtain⟨b2,off2,rfl,k4,k5⟩:=HA.out.2 (fun e=>by rw[e] at hlm;simp at hlm);have x0:wr.cell? ⟨b,off+k*2,none⟩=some (.int .i64 l[k].1):=by rw[hbel.cell (p:=⟨b,off+k*2,none⟩) h4];exact(h5 k hlt).1
    have x1:wr.cell? ⟨b,off+k*2+1,none⟩=some (.int .i64 l[k].2):=by rw[hbel.cell (p:=⟨b,off+k*2+1,none⟩) h4];exact(h5 k hlt).2
    have y0:wr.cell? ⟨b2,off2+k*2,none⟩=some (.int .i64 m[k].1):=by rw[hbel.cell (p:=⟨b2,off2+k*2,none⟩) k4];exact(k5 k hlm).1
    have y1:wr.cell? ⟨b2,off2+k*2+1,none⟩=some (.int .i64 m[k].2):=by rw[hbel.cell (p:=⟨b2,off2+k*2+1,none⟩) k4];exact(k5 k hlm).2
    have g1:(k:Int)<l.length:=by omega
    have g2:(k:Int)<8796093022208:=by have:=HZ.out;omega
    obtain⟨p,hp⟩:=gNz (l[k]:Pr);obtain⟨q,hq⟩:=gNz (m[k]:Pr);rw[hp] at x0 x1;rw[hq] at y0 y1;have HK:Hid (∃(h1:k<l.length) (h2:k<m.length),l[k]=p∧m[k]=q):=⟨hlt,hlm,hp,hq⟩
    have HB:Hid (Below w.heap.size w wr):=hbel;have E:=HE p q;obtain⟨sb,hsb⟩:=gNz (samePr p q:Bool);rw[hsb] at E;have HS:Hid (samePr p q=sb):=hsb;clear h5 k5 hk hbel hlt hlm hp hq HE hsb;cases sb with
    | true=>
     go_wp2;go_quiet (fail);go_wp2;go_roundw
     case rel=>
      obtain⟨i1,i2,e1,e2⟩:=HK.out;exact⟨k+1,i1,by go_num,take_eq k i1 i2 hs.out (by rw[e1,e2];exact(samePr_iff p q).1 HS.out),below_drew HB.out nq⟩
     case measure=>simp[RowKit.intOf];obtain⟨i1,_⟩:=HK.out;omega
    | false=>
     go_wp2;go_quiet (fail);go_wp2;go_ret;obtain⟨i1,i2,e1,e2⟩:=HK.out;exact⟨⟨false,rfl,⟨fun h=>(by cases h),fun h=>absurd (by rw[←e1,←e2];simp[h]) (samePr_no HS.out)⟩⟩,below_drew HB.out nq⟩
   ·have hke:k=l.length:=by omega
    have HB:Hid (Below w.heap.size w wr):=hbel;clear hlt hk hbel;subst hke;go_wp2;go_ret;have e1:=hs.out;rw[List.take_of_length_le lRf,List.take_of_length_le (by have:=HL.out;omega)] at e1;exact⟨⟨true,rfl,⟨fun _=>e1,fun _=>rfl⟩⟩,HB.out⟩
 ·have g1:¬(l.length:Int)=m.length:=by omega
  have g2:((l.length:Int)==m.length)=false:=by simp;omega
  have HL:Hid (¬l.length=m.length):=hlen;clear hlen;go_enter Tryz.func70,Tryz.ntmps70
  go_wp2;go_ret;exact⟨⟨false,rfl,⟨fun h=>(by cases h),fun h=>absurd (by rw[h]) HL.out⟩⟩,Below.refl _ _⟩
theorem eqD (a b:Pr) (w:World):(Op.equalIn 10000 49 (.agg #[.int .i64 a.1,.int .i64 a.2]) (.agg #[.int .i64 b.1,.int .i64 b.2])).run Tryz.prog w=.ok (samePr a b) w:=by
 unfold samePr;go_simp;by_cases h1:a.1=b.1 <;> by_cases h2:a.2=b.2 <;> simp[h1,h2]
theorem equalD_any (v u:Value) (l m:List Pr) (w:World) (hv:IsPairs w v l) (hu:IsPairs w u m):
 Calls Tryz.prog 107 #[v,u] w fun e w'=>(∃b:Bool,e=.returned (.bool b)∧(b=true↔l=m))∧Below w.heap.size w w':=by
 obtain⟨a,cap,rfl,h1,h2,hr,h3⟩:=hv;obtain⟨c,cap2,rfl,k1,k2,kr,k3⟩:=hu;have HA:=hY2 h3 k3;have HZ:Hid (l.length≤8796093022208):=h2;clear h1 h2 hr h3 k1 k2 kr k3;have HE:=eqD;by_cases hlen:l.length=m.length
 ·have HL:Hid (l.length=m.length):=hlen;rw[←hlen];clear hlen;go_enter Tryz.func107,Tryz.ntmps107
  go_wp2_with fail;go_loopw [13] (fun i wr=>∃k:Nat,k≤l.length∧i=.int .i64 k∧Hid (l.take k=m.take k)∧Below w.heap.size w wr) (fun i _=>l.length - (RowKit.intOf i).toNat)
  case atStart=>exact⟨0,Nat.zero_le _,rfl,by show _=_;simp,Below.refl _ _⟩
  case round=>
   obtain⟨k,hk,rfl,hs,hbel⟩:=hrel;by_cases hlt:k<l.length
   ·have hlm:k<m.length:=by have:=HL.out;omega
    obtain⟨b,off,rfl,h4,h5⟩:=HA.out.1 (fun e=>by rw[e] at hlt;simp at hlt);obtain⟨b2,off2,rfl,k4,k5⟩:=HA.out.2 (fun e=>by rw[e] at hlm;simp at hlm);have x0:wr.cell? ⟨b,off+k*2,none⟩=some (.int .i64 l[k].1):=by rw[hbel.cell (p:=⟨b,off+k*2,none⟩) h4];exact(h5 k hlt).1
    have x1:wr.cell? ⟨b,off+k*2+1,none⟩=some (.int .i64 l[k].2):=by rw[hbel.cell (p:=⟨b,off+k*2+1,none⟩) h4];exact(h5 k hlt).2
    have y0:wr.cell? ⟨b2,off2+k*2,none⟩=some (.int .i64 m[k].1):=by rw[hbel.cell (p:=⟨b2,off2+k*2,none⟩) k4];exact(k5 k hlm).1
    have y1:wr.cell? ⟨b2,off2+k*2+1,none⟩=some (.int .i64 m[k].2):=by rw[hbel.cell (p:=⟨b2,off2+k*2+1,none⟩) k4];exact(k5 k hlm).2
    have g1:(k:Int)<l.length:=by omega
    have g2:(k:Int)<8796093022208:=by have:=HZ.out;omega
    obtain⟨p,hp⟩:=gNz (l[k]:Pr);obtain⟨q,hq⟩:=gNz (m[k]:Pr);rw[hp] at x0 x1;rw[hq] at y0 y1;have HK:Hid (∃(h1:k<l.length) (h2:k<m.length),l[k]=p∧m[k]=q):=⟨hlt,hlm,hp,hq⟩
    have HB:Hid (Below w.heap.size w wr):=hbel;have E:=HE p q;obtain⟨sb,hsb⟩:=gNz (samePr p q:Bool);rw[hsb] at E;have HS:Hid (samePr p q=sb):=hsb;clear h5 k5 hk hbel hlt hlm hp hq HE hsb;cases sb with
    | true=>
     go_wp2;go_quiet (fail);go_wp2;go_roundw
     case rel=>
      obtain⟨i1,i2,e1,e2⟩:=HK.out;exact⟨k+1,i1,by go_num,take_eq k i1 i2 hs.out (by rw[e1,e2];exact(samePr_iff p q).1 HS.out),below_drew HB.out nq⟩
     case measure=>simp[RowKit.intOf];obtain⟨i1,_⟩:=HK.out;omega
    | false=>
     go_wp2;go_quiet (fail);go_wp2;go_ret;obtain⟨i1,i2,e1,e2⟩:=HK.out;exact⟨⟨false,rfl,⟨fun h=>(by cases h),fun h=>absurd (by rw[←e1,←e2];simp[h]) (samePr_no HS.out)⟩⟩,below_drew HB.out nq⟩
   ·have hke:k=l.length:=by omega
    have HB:Hid (Below w.heap.size w wr):=hbel;clear hlt hk hbel;subst hke;go_wp2;go_ret;have e1:=hs.out;rw[List.take_of_length_le lRf,List.take_of_length_le (by have:=HL.out;omega)] at e1;exact⟨⟨true,rfl,⟨fun _=>e1,fun _=>rfl⟩⟩,HB.out⟩
 ·have g1:¬(l.length:Int)=m.length:=by omega
  have g2:((l.length:Int)==m.length)=false:=by simp;omega
  have HL:Hid (¬l.length=m.length):=hlen;clear hlen;go_enter Tryz.func107,Tryz.ntmps107
  go_wp2;go_ret;exact⟨⟨false,rfl,⟨fun h=>(by cases h),fun h=>absurd (by rw[h]) HL.out⟩⟩,Below.refl _ _⟩
end Go.Proofs.YtamhlgflbacjgaaGreat
