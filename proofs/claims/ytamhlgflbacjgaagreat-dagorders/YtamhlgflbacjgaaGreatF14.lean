/-
  What is proved: as each theorem says.
  Conditions: as each theorem says.
-/
import Derived.Test.YtamhlgflbacjgaaGreatF00
import Derived.Test.YtamhlgflbacjgaaGreatF12
import Derived.Test.YtamhlgflbacjgaaGreatF13
import Derived.Deep.RegionHeld3
import Derived.Handy
import Derived.Deep.CutBlock
import Derived.Maps.AppendAt
set_option maxRecDepth 100000
set_option maxHeartbeats 16000000
namespace Go.Proofs.YtamhlgflbacjgaaGreat
open Go.RowKit Go.Sort
def FindP (L:List Chg) (r:Pr) (x:Int):Prop:=(x= -1∧r∉refsOf L)∨∃k:Nat,x=k∧∃h:k<L.length,L[k].ref=r∧∀j (_:j<k),L[j].ref≠r
theorem FindP.neg {L:List Chg} {r:Pr} {x:Int} (h:FindP L r x):x<0↔r∉refsOf L:=by
 rcases h with⟨rfl,h⟩ | ⟨k,rfl,hk,e,_⟩
 ·exact⟨fun _=>h,fun _=>by omega⟩
 ·exact⟨fun h=>by omega,fun h=>absurd (mem_refs.2 ⟨_,List.getElem_mem hk,e⟩) h⟩
theorem FindP.range {L:List Chg} {r:Pr} {x:Int} (h:FindP L r x): -1≤x∧x<L.length:=by
 rcases h with⟨rfl,_⟩ | ⟨k,rfl,hk,_⟩ <;> omega
theorem rFind_any (v:Value) (l:List CX) (r:Pr) (w:World) (hv:IsChgs w v l):
 Calls Tryz.prog 62 #[v,refV r] w fun e w'=>(∃x,e=.returned (.int .i64 x)∧FindP (l.map (·.c)) r x)∧Below w.heap.size w w':=by
 obtain⟨a,cap,rfl,h1,h2,hr,h3⟩:=hv;have H3:=hY2 hr h3;have HZ:Hid (l.length≤1000000):=h2;have b0:=bAl w (.cells #[.int .i64 r.1,.int .i64 r.2] 45);have n0:=heap_alloc_new w (.cells #[.int .i64 r.1,.int .i64 r.2] 45);have HA:=hY2 b0 n0;clear h3 hr h1 h2 b0 n0;go_enter Tryz.func62,Tryz.ntmps62
 go_wp2_with fail;go_loopw [5] (fun i wr=>∃k:Nat,k≤l.length∧i=.int .i64 k∧Hid ((∀j (hj:j<l.length),j<k→l[j].c.ref≠r)∧Below w.heap.size w wr∧wr.heap[w.heap.size]?=some (.cells #[.int .i64 r.1,.int .i64 r.2] 45))) (fun i _=>l.length - (RowKit.intOf i).toNat)
 case atStart=>exact⟨0,Nat.zero_le _,rfl,fun j _ hj=>absurd hj (Nat.not_lt_zero _),HA.out⟩
 case round=>
  obtain⟨k,hk,rfl,hR⟩:=hrel;by_cases hlt:k<l.length
  ·obtain⟨b,off,rfl,h4,h5⟩:=H3.out.2 (fun e=>by rw[e] at hlt;simp at hlt);obtain⟨qa,hqa⟩:=gNz (l[k].c.actor:Int);obtain⟨qs,hqs⟩:=gNz (l[k].c.seq:Int);have x0:wr.cell? ⟨b,off+k*5,none⟩=some (.int .i64 qa):=by rw[hR.out.2.1.cell (p:=⟨b,off+k*5,none⟩) h4,←hqa];exact h5 k hlt 0 (by omega)
   have x1:wr.cell? ⟨b,off+k*5+1,none⟩=some (.int .i64 qs):=by rw[hR.out.2.1.cell (p:=⟨b,off+k*5+1,none⟩) h4,←hqs];exact h5 k hlt 1 (by omega)
   obtain⟨y0,y1,-⟩:=cLs hR.out.2.2;have g1:(k:Int)<l.length:=by omega
   have g2:(k:Int)<1000000:=by have:=HZ.out;omega
   have g3:(0:Int)≤k:=by omega
   have HK:Hid (∃h:k<l.length,l[k].c.ref=(qa,qs)):=⟨hlt,by unfold Chg.ref;rw[hqa,hqs]⟩
   have HD:Hid (Below w.heap.size w wr.drew∧wr.drew.heap[w.heap.size]?=some (.cells #[.int .i64 r.1,.int .i64 r.2] 45)∧∀j (hj:j<l.length),j<k→l[j].c.ref≠r):=⟨drew_of hR.out.2.1,hR.out.2.2,hR.out.1⟩
   clear h4 h5 hk hlt hqa hqs hR;by_cases ha:qa=r.1
   ·have ja:(qa==r.1)=true:=by rw[beq_iff_eq];exact ha
    by_cases hs:qs=r.2
    ·have js:(qs==r.2)=true:=by rw[beq_iff_eq];exact hs
     have HE:Hid (FindP (l.map (·.c)) r (k:Int)):=by
      obtain⟨h,e⟩:=HK.out;refine Or.inr ⟨k,rfl,by rw[List.length_map];exact h,?_,fun j hj=>?_⟩
      ·rw[List.getElem_map,e,ha,hs]
      ·rw[List.getElem_map];exact HD.out.2.2 j (by omega) hj
     clear ha hs;go_upto_region 4 with fail
     refine rNh (fun W=>W.cell? ⟨b,off+k*5,none⟩=some (.int .i64 qa)∧W.cell? ⟨b,off+k*5+1,none⟩=some (.int .i64 qs)∧W.cell? ⟨w.heap.size,0,none⟩=some (.int .i64 r.1)∧W.cell? ⟨w.heap.size,1,none⟩=some (.int .i64 r.2)) (⟨x0,x1,y0,y1⟩) (fun hHeld=>?_);refine tk 0 rfl ?_;refine tk 1 rfl ?_;refine tk 2 rfl ?_;refine tk 3 rfl ?_;refine tk 4 rfl ?_;refine tk 5 rfl ?_;refine tk 6 rfl ?_;refine tk 7 rfl ?_;refine tk 8 rfl ?_;refine tk 9 rfl ?_;refine tk 10 rfl ?_;refine tk 11 rfl ?_;refine tk 12 rfl ?_;refine tk 13 rfl ?_;refine tk 14 rfl ?_;refine tk 15 rfl ?_;refine tk 16 rfl ?_;refine tk 17 rfl ?_;refine wDn ?_;clear hHeld x0 x1 y0 y1 ja js;generalize wr.drew=WD at *;go_wp2;go_ret;exact⟨⟨_,rfl,HE.out⟩,HD.out.1⟩
    ·have js:(qs==r.2)=false:=by rw[beq_eq_false_iff_ne];exact hs
     have HX:Hid ((qa,qs)≠r):=fun e=>hs (congrArg Prod.snd e);clear ha hs;go_upto_region 4 with fail
     refine rNh (fun W=>W.cell? ⟨b,off+k*5,none⟩=some (.int .i64 qa)∧W.cell? ⟨b,off+k*5+1,none⟩=some (.int .i64 qs)∧W.cell? ⟨w.heap.size,0,none⟩=some (.int .i64 r.1)∧W.cell? ⟨w.heap.size,1,none⟩=some (.int .i64 r.2)) (⟨x0,x1,y0,y1⟩) (fun hHeld=>?_);refine tk 0 rfl ?_;refine tk 1 rfl ?_;refine tk 2 rfl ?_;refine tk 3 rfl ?_;refine tk 4 rfl ?_;refine tk 5 rfl ?_;refine tk 6 rfl ?_;refine tk 7 rfl ?_;refine tk 8 rfl ?_;refine tk 9 rfl ?_;refine tk 10 rfl ?_;refine tk 11 rfl ?_;refine tk 12 rfl ?_;refine tk 13 rfl ?_;refine tk 14 rfl ?_;refine tk 15 rfl ?_;refine tk 16 rfl ?_;refine tk 17 rfl ?_;refine wDn ?_;clear hHeld x0 x1 y0 y1 ja js;generalize wr.drew=WD at *;go_wp2;go_roundw
     case rel=>
      obtain⟨h,e⟩:=HK.out;refine⟨k+1,h,by go_num,fun j hj hjk=>?_,HD.out.1,HD.out.2.1⟩;rcases Nat.lt_or_ge j k with h1 | h1
      ·exact HD.out.2.2 j hj h1
      ·obtain rfl:j=k:=by omega
       rw[e];exact HX.out
     case measure=>obtain⟨h,_⟩:=HK.out;simp[RowKit.intOf];omega
   ·have ja:(qa==r.1)=false:=by rw[beq_eq_false_iff_ne];exact ha
    have HX:Hid ((qa,qs)≠r):=fun e=>ha (congrArg Prod.fst e);clear ha;go_upto_region 4 with fail
    refine rNh (fun W=>W.cell? ⟨b,off+k*5,none⟩=some (.int .i64 qa)∧W.cell? ⟨b,off+k*5+1,none⟩=some (.int .i64 qs)∧W.cell? ⟨w.heap.size,0,none⟩=some (.int .i64 r.1)∧W.cell? ⟨w.heap.size,1,none⟩=some (.int .i64 r.2)) (⟨x0,x1,y0,y1⟩) (fun hHeld=>?_);refine tk 0 rfl ?_;refine tk 1 rfl ?_;refine tk 2 rfl ?_;refine tk 3 rfl ?_;refine tk 4 rfl ?_;refine tk 5 rfl ?_;refine tk 6 rfl ?_;refine tk 7 rfl ?_;refine tk 8 rfl ?_;refine sk 9 rfl ?_;refine sk 10 rfl ?_;refine sk 11 rfl ?_;refine sk 12 rfl ?_;refine sk 13 rfl ?_;refine sk 14 rfl ?_;refine sk 15 rfl ?_;refine sk 16 rfl ?_;refine tk 17 rfl ?_;refine wDn ?_;clear hHeld x0 x1 y0 y1 ja;generalize wr.drew=WD at *;go_wp2;go_roundw
    case rel=>
     obtain⟨h,e⟩:=HK.out;refine⟨k+1,h,by go_num,fun j hj hjk=>?_,HD.out.1,HD.out.2.1⟩;rcases Nat.lt_or_ge j k with h1 | h1
     ·exact HD.out.2.2 j hj h1
     ·obtain rfl:j=k:=by omega
      rw[e];exact HX.out
    case measure=>obtain⟨h,_⟩:=HK.out;simp[RowKit.intOf];omega
  ·have hke:k=l.length:=by omega
   have HZ2:Hid (FindP (l.map (·.c)) r (-1)):=by
    refine Or.inl ⟨rfl,fun e=>?_⟩;obtain⟨c,hc,e⟩:=mem_refs.1 e;obtain⟨x,hx,rfl⟩:=List.mem_map.1 hc;obtain⟨j,hj,ej⟩:=List.getElem_of_mem hx;exact hR.out.1 j hj (by omega) (by rw[ej];exact e)
   have HB:Hid (Below w.heap.size w wr):=hR.out.2.1;clear hlt hk hR;subst hke;go_wp2;go_ret;exact⟨⟨_,rfl,HZ2.out⟩,HB.out⟩
def aheadB (a b:Pr):Bool:=decide (a.1<b.1∨(a.1=b.1∧a.2<b.2))
theorem ahead_iff (a b:Pr):aheadB a b=true↔ltR a b:=by unfold aheadB ltR;simp
theorem rAhead_any (a b:Pr) (w:World):
 Calls Tryz.prog 63 #[refV a,refV b] w fun e w'=>e=.returned (.bool (aheadB a b))∧Below w.heap.size w w':=by
 have b0:=(bAl w (.cells #[.int .i64 a.1,.int .i64 a.2] 45)).alloc (by simp) (.cells #[.int .i64 b.1,.int .i64 b.2] 45);have HB:Hid (Below w.heap.size w _):=b0;obtain⟨z,hz⟩:=gNz (aheadB a b:Bool);rw[hz];have HZ:Hid (aheadB a b=z):=hz;clear hz b0;unfold refV;go_enter Tryz.func63,Tryz.ntmps63
 by_cases h:a.1=b.1
 ·have h1:(a.1 !=b.1)=false:=by simp[h]
  by_cases h2:a.2<b.2
  ·have HE:Hid (z=true):=by show _=_;rw[←HZ.out];exact decide_eq_true (by omega)
   clear h;go_wp2;go_ret;exact⟨by rw[HE.out];rfl,HB.out⟩
  ·have HE:Hid (z=false):=by show _=_;rw[←HZ.out];exact decide_eq_false (by omega)
   clear h;go_wp2;go_ret;exact⟨by rw[HE.out];rfl,HB.out⟩
 ·have h1:(a.1 !=b.1)=true:=by simp[h]
  by_cases h2:a.1<b.1
  ·have HE:Hid (z=true):=by show _=_;rw[←HZ.out];exact decide_eq_true (by omega)
   clear h;go_wp2;go_ret;exact⟨by rw[HE.out];rfl,HB.out⟩
  ·have HE:Hid (z=false):=by show _=_;rw[←HZ.out];exact decide_eq_false (by omega)
   clear h;go_wp2;go_ret;exact⟨by rw[HE.out];rfl,HB.out⟩
def putS (l:List Pr) (r:Pr):List Pr:=if r∈l then l else l.takeWhile (aheadB · r)++r::l.dropWhile (aheadB · r)
theorem mem_putS {l:List Pr} {r x:Pr}:x∈putS l r↔x=r∨x∈l:=by
 unfold putS;by_cases h:r∈l
 ·rw[if_pos h];exact⟨Or.inr,fun e=>e.elim (fun e=>by rw[e];exact h) id⟩
 ·rw[if_neg h,List.mem_append,List.mem_cons];have e:x∈l↔x∈l.takeWhile (aheadB · r)∨x∈l.dropWhile (aheadB · r):=by
   rw[←List.mem_append,List.takeWhile_append_dropWhile]
  rw[e];constructor
  ·rintro(h | h | h)
   ·exact Or.inr (Or.inl h)
   ·exact Or.inl h
   ·exact Or.inr (Or.inr h)
  ·rintro(h | h | h)
   ·exact Or.inr (Or.inl h)
   ·exact Or.inl h
   ·exact Or.inr (Or.inr h)
theorem ltR_trans {a b c:Pr} (h:ltR a b) (g:ltR b c):ltR a c:=by unfold ltR at *;omega
theorem ltR_total {a b:Pr} (h:a≠b) (g:¬ltR a b):ltR b a:=by
 unfold ltR at *;have:¬(a.1=b.1∧a.2=b.2):=fun e=>h (Prod.ext e.1 e.2);omega
theorem drop_head {l:List Pr} {f:Pr→Bool}:∀x r,l.dropWhile f=x::r→f x=false:=by
 induction l with
 | nil=>intro x r h;simp at h
 | cons a l ih=>
  intro x r h;rw[List.dropWhile_cons] at h;by_cases ha:f a=true
  ·rw[if_pos ha] at h;exact ih x r h
  ·rw[if_neg ha] at h;obtain⟨rfl,_⟩:=List.cons.inj h;simpa using ha
theorem rise_putS {l:List Pr} {r:Pr} (h:Rise l):Rise (putS l r):=by
 unfold putS;by_cases hm:r∈l
 ·rw[if_pos hm];exact h
 ·rw[if_neg hm];have e:l.takeWhile (aheadB · r)++l.dropWhile (aheadB · r)=l:=List.takeWhile_append_dropWhile;have h2:Rise (l.takeWhile (aheadB · r)++l.dropWhile (aheadB · r)):=by rw[e];exact h
  have h3:=List.pairwise_append.1 h2;have below:∀x∈l.takeWhile (aheadB · r),ltR x r:=fun x hx=>(ahead_iff x r).1 (List.all_eq_true.1 (List.all_takeWhile (l:=l) (p:=(aheadB · r))) x hx);have above:∀x∈l.dropWhile (aheadB · r),ltR r x:=by
   cases hd:l.dropWhile (aheadB · r) with
   | nil=>intro x hx;cases hx
   | cons a t=>
    have ha:aheadB a r=false:=drop_head a t hd;have hal:a∈l:=by rw[←e,hd];simp
    have hra:ltR r a:=ltR_total (fun e=>hm (by rw[←e];exact hal)) (fun g=>by rw[(ahead_iff a r).2 g] at ha;cases ha);intro x hx;rcases List.mem_cons.1 hx with rfl | hx
    ·exact hra
    ·have h4:Rise (a::t):=by rw[←hd];exact h3.2.1
     exact ltR_trans hra ((List.pairwise_cons.1 h4).1 x hx)
  refine List.pairwise_append.2 ⟨h3.1,List.pairwise_cons.2 ⟨above,h3.2.1⟩,fun x hx y hy=>?_⟩;rcases List.mem_cons.1 hy with rfl | hy
  ·exact below x hx
  ·exact h3.2.2 x hx y hy
theorem put_at {l:List Pr} {r:Pr} {k:Nat} (hm:r∉l) (hk:k≤l.length) (h1:∀j (hj:j<l.length),j<k→aheadB l[j] r=true) (h2:∀h:k<l.length,aheadB l[k] r=false):putS l r=l.take k++r::l.drop k:=by
 have e1:∀(l:List Pr) (k:Nat),k≤l.length→(∀j (hj:j<l.length),j<k→aheadB l[j] r=true)→(∀h:k<l.length,aheadB l[k] r=false)→l.takeWhile (aheadB · r)=l.take k∧l.dropWhile (aheadB · r)=l.drop k:=by
  intro l
  induction l with
  | nil=>intro k _ _ _;simp
  | cons a t ih=>
   intro k hk h1 h2;cases k with
   | zero=>
    have:=h2 (by simp);simp only[List.getElem_cons_zero] at this;rw[List.takeWhile_cons,List.dropWhile_cons,this];simp
   | succ k=>
    have ha:=h1 0 (by simp) (by omega);simp only[List.getElem_cons_zero] at ha;have:=ih k (by simpa using hk) (fun j hj hjk=>by have:=h1 (j+1) (by simpa using hj) (by omega);simpa using this) (fun h=>by have:=h2 (by simpa using h);simpa using this);rw[List.takeWhile_cons,List.dropWhile_cons,ha];simp[this.1,this.2]
 obtain⟨a,b⟩:=e1 l k hk h1 h2;unfold putS;rw[if_neg hm,a,b]
theorem putS_len (l:List Pr) (r:Pr):(putS l r).length≤l.length+1:=by
 unfold putS;by_cases h:r∈l
 ·rw[if_pos h];omega
 ·rw[if_neg h,List.length_append,List.length_cons];have:=congrArg List.length (List.takeWhile_append_dropWhile (p:=(aheadB · r)) (l:=l));rw[List.length_append] at this;omega
theorem run_appR1 (ty:TypeId) (W:World) (B:Nat) (hB:B≤W.heap.size) (v:Value) (r:Pr) (rs:List Pr) (h:RowPr 45 B v rs W) (hl:rs.length≤1000000) (x:Nat) (hx:W.heap[x]?=some (.cells #[.int .i64 r.1,.int .i64 r.2] 45)):
 ∃v' W',(Builtin.append_ #[30,30] ty #[v,.slice (some ⟨x,0,none⟩) 1 1]).run Tryz.prog W=.ok v' W'∧RowPr 45 B v' (rs++[r]) W'∧W.grownBy W' v.ownBlock:=by
 obtain⟨i0,hi0,hz0,hz1,hz2⟩:=info_parts infoR;obtain⟨v',W',h1,h2,h3,_⟩:=run_append_own (P:=Tryz.prog) W B 30 ty 45 i0 _ 2 _ Tryz.underlying30 hi0 hz0 hz1 hz2 rfl (by decide) v rs.length _ h ⟨x,0,none⟩ 1 1 [.int .i64 r.1,.int .i64 r.2] rfl (fun j y hj=>by
  have ea:(⟨x,0,none⟩:Addr).add j=⟨x,j,none⟩:=by unfold Addr.add;split <;> simp_all
  rw[ea];simp[World.cell?,hx];exact hj) (by simp[Value.oneCell']) (by unfold maxLen;omega) (by omega) hB
 refine⟨v',W',h1,?_,h3⟩;show World.ownsRow _ _ _ _ _ _ _;rw[pcells_append,List.length_append];exact h2
theorem run_appP (ty:TypeId) (W:World) (B:Nat) (hB:B≤W.heap.size) (v u:Value) (rs l:List Pr) (h:RowPr 45 B v rs W) (hu:IsPairs W u l) (hw:Wh u) (hl:rs.length+l.length≤100000000):
 ∃v' W',(Builtin.append_ #[30,30] ty #[v,u]).run Tryz.prog W=.ok v' W'∧RowPr 45 B v' (rs++l) W'∧W.grownBy W' v.ownBlock∧(v'.ownBlock=v.ownBlock∨v'.ownBlock=some W.heap.size):=by
 obtain⟨i0,hi0,hz0,hz1,hz2⟩:=info_parts infoR;rcases hw with rfl | ⟨ad,n,c,rfl⟩
 ·have hl0:l=[]:=by
   obtain⟨a',c',e,_⟩:=hu;exact List.length_eq_zero_iff.1 (Value.slice.inj e).2.1.symm
  subst hl0;refine⟨v,W,run_append_owned_none (P:=Tryz.prog) (w:=W) B 30 ty 45 i0 2 Tryz.underlying30 hi0 v rs.length _ h,?_,⟨rfl,rfl,rfl,lRf,fun _ _ _=>rfl⟩,Or.inl rfl⟩;rw[List.append_nil];exact h
 ·obtain⟨hn,hc⟩:=pair_cells hu rfl;subst hn;obtain⟨v',W',h1,h2,h3,_,h5⟩:=run_append_own_at (P:=Tryz.prog) W B 30 ty 45 i0 _ 2 _ Tryz.underlying30 hi0 hz0 hz1 hz2 rfl (by decide) v rs.length _ h ad l.length c (pcells l) (pcells_len l) hc (pair_one l) (by unfold maxLen;omega) (by omega) hB;refine⟨v',W',h1,?_,h3,h5⟩;show World.ownsRow _ _ _ _ _ _ _;rw[pcells_append,List.length_append];exact h2
theorem keepR {W W':World} {b off k x:Nat} {pa ps:Int} {r:Pr} (h:W.cell? ⟨b,off+k*2,none⟩=some (.int .i64 pa)∧W.cell? ⟨b,off+k*2+1,none⟩=some (.int .i64 ps)∧W.cell? ⟨x,0,none⟩=some (.int .i64 r.1)∧W.cell? ⟨x,1,none⟩=some (.int .i64 r.2)) (hb:Below W.heap.size W W'):W'.cell? ⟨b,off+k*2,none⟩=some (.int .i64 pa)∧W'.cell? ⟨b,off+k*2+1,none⟩=some (.int .i64 ps)∧W'.cell? ⟨x,0,none⟩=some (.int .i64 r.1)∧W'.cell? ⟨x,1,none⟩=some (.int .i64 r.2):=
 ⟨(hb.cell (cell_in h.1)).trans h.1,(hb.cell (cell_in h.2.1)).trans h.2.1,(hb.cell (cell_in h.2.2.1)).trans h.2.2.1,(hb.cell (cell_in h.2.2.2)).trans h.2.2.2⟩
theorem pairs_take {W:World} {a:Option Addr} {n c:Nat} {l:List Pr} (h:IsPairs W (.slice a n c) l) (k:Nat) (hk:k≤l.length):IsPairs W (.slice a k c) (l.take k):=by
 obtain⟨a',c',e,h1,h2,h3,h4⟩:=h;obtain⟨rfl,rfl,rfl⟩:=Value.slice.inj e;have e1:(l.take k).length=k:=by rw[List.length_take];omega
 refine⟨a,c,by rw[e1],by omega,by omega,fun q hq=>h3 q (List.mem_of_mem_take hq),fun hne=>?_⟩;obtain⟨b,off,rfl,h5,h6⟩:=h4 (fun e=>hne (by rw[e];simp));refine⟨b,off,rfl,h5,fun i hi=>?_⟩;rw[List.getElem_take];exact h6 i (by omega)
theorem pairs_drop {W:World} {b off n c:Nat} {l:List Pr} (h:IsPairs W (.slice (some ⟨b,off,none⟩) n c) l) (k:Nat) (hk:k≤l.length):IsPairs W (.slice (some ⟨b,off+k*2,none⟩) (n - k) (c - k)) (l.drop k):=by
 obtain⟨a',c',e,h1,h2,h3,h4⟩:=h;obtain⟨rfl,rfl,rfl⟩:=Value.slice.inj e;refine⟨_,_,by rw[List.length_drop],by rw[List.length_drop];omega,by rw[List.length_drop];omega,fun q hq=>h3 q (List.mem_of_mem_drop hq),fun hne=>?_⟩;obtain⟨b',off',e2,h5,h6⟩:=h4 (fun e=>hne (by rw[e];simp));obtain⟨rfl,rfl⟩:b=b'∧off=off':=by injection e2 with e2;injection e2 with e3 e4;exact⟨e3,e4⟩
 refine⟨b,_,rfl,h5,fun i hi=>?_⟩;rw[List.getElem_drop];have:=h6 (k+i) (by rw[List.length_drop] at hi;omega);rw[show off+k*2+i*2=off+(k+i)*2 by omega];exact this
theorem rPutR_any (v:Value) (l:List Pr) (r:Pr) (w:World) (hv:IsPairs w v l) (hw:Wh v) (hr:R64 r) (hl:l.length≤1000000):
 Calls Tryz.prog 49 #[v,refV r] w fun e w'=>(∃u,e=.returned u∧IsPairs w' u (putS l r)∧Wh u∧(u=v∨∀b,u.ownBlock=some b→w.heap.size≤b∧b<w'.heap.size))∧Below w.heap.size w w':=by
 have b0:=bAl w (.cells #[.int .i64 r.1,.int .i64 r.2] 45);have n0:=heap_alloc_new w (.cells #[.int .i64 r.1,.int .i64 r.2] 45);have EH:=rHas_any v l r _ (hv.below b0);have HV:Hid (IsPairs w v l∧Wh v∧R64 r∧l.length≤1000000):=⟨hv,hw,hr,hl⟩
 have HA:Hid (_∧_):=⟨b0,n0⟩
 have y0:(w.alloc (.cells #[.int .i64 r.1,.int .i64 r.2] 45)).cell? ⟨w.heap.size,0,none⟩=some (.int .i64 r.1):=cLo n0 0;have y1:(w.alloc (.cells #[.int .i64 r.1,.int .i64 r.2] 45)).cell? ⟨w.heap.size,1,none⟩=some (.int .i64 r.2):=cLo n0 1;obtain⟨hb,hhb⟩:=gNz (decide (r∈l):Bool);rw[hhb] at EH;have HHB:Hid (decide (r∈l)=hb):=hhb;obtain⟨a,n,cap,rfl⟩:∃a n c,v=.slice a n c:=by obtain⟨a,c,e,_⟩:=hv;exact⟨_,_,_,e⟩
 clear hv hw hr hl b0 n0 hhb;go_enter Tryz.func49,Tryz.ntmps49
 go_wp2_with fail;go_fit EH;rintro e w1 ⟨rfl,b1⟩;have HB1:Hid (Below w.heap.size w w1∧w1.heap[w.heap.size]?=some (.cells #[.int .i64 r.1,.int .i64 r.2] 45)):=⟨HA.out.1.trans (b1.mono HA.out.1.size),heap_below HA.out.2 b1 lRf⟩
 clear b1 EH y0 y1 HA;cases hb with
 | true=>
  have HE:Hid (putS l r=l):=by
   show _=_;unfold putS;rw[if_pos (of_decide_eq_true HHB.out)]
  go_wp2;go_ret;exact⟨⟨_,rfl,by rw[HE.out];exact HV.out.1.below HB1.out.1,HV.out.2.1,Or.inl rfl⟩,HB1.out.1⟩
 | false=>
  have HNM:Hid (r∉l):=of_decide_eq_false HHB.out;clear HHB;obtain⟨HN⟩:Nonempty (Hid (n=l.length)):=⟨by obtain⟨a',c',e,_⟩:=HV.out.1;exact(Value.slice.inj e).2.1⟩
  go_upto_block 0 with fail
  go_cut [6] from 13 to 26 (fun i wx=>∃k:Nat,i=.int .i64 k∧Hid (k≤l.length∧(∀j (hj:j<l.length),j<k→aheadB l[j] r=true)∧(∀h:k<l.length,aheadB l[k] r=false)∧Below w.heap.size w wx∧wx.heap[w.heap.size]?=some (.cells #[.int .i64 r.1,.int .i64 r.2] 45)))
  case first=>
   go_wp2_with fail;go_loopw [6] (fun i wr=>∃k:Nat,i=.int .i64 k∧Hid (k≤l.length∧(∀j (hj:j<l.length),j<k→aheadB l[j] r=true)∧Below w.heap.size w wr∧wr.heap[w.heap.size]?=some (.cells #[.int .i64 r.1,.int .i64 r.2] 45))) (fun i _=>l.length - (RowKit.intOf i).toNat)
   case atStart=>exact⟨0,rfl,Nat.zero_le _,fun j _ hj=>absurd hj (Nat.not_lt_zero _),HB1.out.1,HB1.out.2⟩
   case round=>
    obtain⟨k,rfl,hR⟩:=hrel;obtain⟨y0,y1,-⟩:=cLs hR.out.2.2.2;by_cases hlt:k<l.length
    ·obtain⟨a',c',e9,h1,h2,h3,h4⟩:=HV.out.1;obtain⟨b,off,rfl,h5,h6⟩:=h4 (fun e=>by rw[e] at hlt;simp at hlt);obtain⟨e91,e92,e93⟩:=Value.slice.inj e9;subst e91;clear e9 e93 e92;obtain⟨pa,hpa⟩:=gNz (l[k].1:Int);obtain⟨ps,hps⟩:=gNz (l[k].2:Int);have x0:wr.cell? ⟨b,off+k*2,none⟩=some (.int .i64 pa):=by rw[hR.out.2.2.1.cell (p:=⟨b,off+k*2,none⟩) h5,←hpa];exact(h6 k hlt).1
     have x1:wr.cell? ⟨b,off+k*2+1,none⟩=some (.int .i64 ps):=by rw[hR.out.2.2.1.cell (p:=⟨b,off+k*2+1,none⟩) h5,←hps];exact(h6 k hlt).2
     have g1:(k:Int)<n:=by rw[HN.out];omega
     have g2:(k:Int)<1000000:=by have:=HV.out.2.2.2;omega
     have g3:(0:Int)≤k:=by omega
     have EA:=rAhead_any (pa,ps) r wr.drew;obtain⟨ab,hab⟩:=gNz (aheadB (pa,ps) r:Bool);rw[hab] at EA;have HK:Hid (∃h:k<l.length,aheadB l[k] r=ab):=⟨hlt,by rw[←hab,←hpa,←hps]⟩
     have HR:Hid (k≤l.length∧(∀j (hj:j<l.length),j<k→aheadB l[j] r=true)∧Below w.heap.size w wr.drew∧wr.drew.heap[w.heap.size]?=some (.cells #[.int .i64 r.1,.int .i64 r.2] 45)):=⟨hR.out.1,hR.out.2.1,drew_of hR.out.2.2.1,hR.out.2.2.2⟩
     clear h1 h2 h3 h4 h5 h6 hlt hpa hps hab hR;go_upto_region 5 with fail
     refine rNh (fun W=>W.cell? ⟨b,off+k*2,none⟩=some (.int .i64 pa)∧W.cell? ⟨b,off+k*2+1,none⟩=some (.int .i64 ps)∧W.cell? ⟨w.heap.size,0,none⟩=some (.int .i64 r.1)∧W.cell? ⟨w.heap.size,1,none⟩=some (.int .i64 r.2)) (⟨x0,x1,y0,y1⟩) (fun hHeld=>?_);refine tk 0 rfl ?_;refine tk 1 rfl ?_;refine tk 2 rfl ?_;refine tk 3 rfl ?_;refine tk 4 rfl ?_;refine tk 5 rfl ?_;refine tk 6 rfl ?_;refine tk 7 rfl ?_;refine tk 8 rfl ?_;refine tk 9 rfl ?_;refine wpAnyH_ready (rs:=[10]) (by kernel_rfl) (by simp) (AllReadyH.cons (o:={dst:=some 23,op:=Op.call {callee:=Callee.value (Operand.func 63),args:=#[Operand.tmp 21,Operand.tmp 22],argTypes:=#[45,45]},type:=4,pos := "book.go:29",after:=#[aD 8,aD 9,aC 4,aG 4],guard:=some (4,true)}) rfl (fun K hK=>?_) AllReadyH.nil);go_simp;go_at_call 63;refine Calls.mono EA ?_;rintro e w10 ⟨rfl,hb10⟩;go_wp2_with fail;refine hK.out _ _ (keepR (by assumption) hb10) (fun hHeld10=>?_);clear hK K;try simp only[Act.put,nm]
     refine tk 11 rfl ?_;refine wDn ?_;have HB2:Hid (Below w.heap.size w w10∧w10.heap[w.heap.size]?=some (.cells #[.int .i64 r.1,.int .i64 r.2] 45)):=⟨HR.out.2.2.1.trans (hb10.mono HR.out.2.2.1.size),heap_below HR.out.2.2.2 hb10 lRf⟩
     clear hHeld hHeld10 x0 x1 y0 y1 EA hb10;cases ab with
     | true=>
      go_wp2;go_roundw
      case rel=>
       obtain⟨h,e⟩:=HK.out;refine⟨k+1,by go_num,h,fun j hj hjk=>?_,HB2.out.1,HB2.out.2⟩;rcases Nat.lt_or_ge j k with h1 | h1
       ·exact HR.out.2.1 j hj h1
       ·obtain rfl:j=k:=by omega
        exact e
      case measure=>obtain⟨h,_⟩:=HK.out;simp[RowKit.intOf];omega
     | false=>
      go_wp2_with fail;go_meet
      case rel=>exact⟨k,rfl,HR.out.1,HR.out.2.1,fun _=>HK.out.2,HB2.out.1,HB2.out.2⟩
    ·have g1:¬(k:Int)<n:=by rw[HN.out];omega
     have HR:Hid (k≤l.length∧(∀j (hj:j<l.length),j<k→aheadB l[j] r=true)∧(∀h:k<l.length,aheadB l[k] r=false)∧Below w.heap.size w wr.drew∧wr.drew.heap[w.heap.size]?=some (.cells #[.int .i64 r.1,.int .i64 r.2] 45)):=⟨hR.out.1,hR.out.2.1,fun h=>absurd h hlt,drew_of hR.out.2.2.1,hR.out.2.2.2⟩
     clear hlt hR;go_upto_region 5 with fail
     refine rNh (fun W=>W.cell? ⟨w.heap.size,0,none⟩=some (.int .i64 r.1)∧W.cell? ⟨w.heap.size,1,none⟩=some (.int .i64 r.2)) (⟨y0,y1⟩) (fun hHeld=>?_);refine tk 0 rfl ?_;refine tk 1 rfl ?_;refine tk 2 rfl ?_;refine tk 3 rfl ?_;refine tk 4 rfl ?_;refine sk 5 rfl ?_;refine sk 6 rfl ?_;refine sk 7 rfl ?_;refine sk 8 rfl ?_;refine sk 9 rfl ?_;refine sk 10 rfl ?_;refine tk 11 rfl ?_;refine wDn ?_;clear hHeld y0 y1;go_wp2_with fail;go_meet
     case rel=>exact⟨k,rfl,HR.out⟩
  case rest=>
   obtain⟨k,rfl,hC⟩:=hcut;clear HB1;have HP:Hid (IsPairs wc (.slice a n cap) l):=HV.out.1.below hC.out.2.2.2.1;have HE:Hid (putS l r=l.take k++r::l.drop k):=put_at HNM.out hC.out.1 hC.out.2.1 hC.out.2.2.1;have HC:Hid (k≤l.length∧Below w.heap.size w wc∧wc.heap[w.heap.size]?=some (.cells #[.int .i64 r.1,.int .i64 r.2] 45)):=⟨hC.out.1,hC.out.2.2.2⟩
   clear hC HNM;obtain⟨HKC⟩:Nonempty (Hid (n≤cap)):=⟨by
    obtain⟨a',c',e,h1,_⟩:=HP.out;obtain⟨_,e2,e3⟩:=Value.slice.inj e;show n≤cap;omega⟩
   have g1:(k:Int)≤n:=by have:=HC.out.1;have:=HN.out;omega
   have g2:(k:Int)≤cap:=by have:=HC.out.1;have:=HN.out;have:=HKC.out;omega
   have g3:(0:Int)≤k:=by omega
   rcases HV.out.2.1 with e | ⟨ad,n',c',e⟩
   ·obtain⟨rfl,rfl,rfl⟩:=Value.slice.inj e;obtain rfl:k=0:=by have:=HC.out.1;have:=HN.out;omega
    have hl0:l=[]:=List.length_eq_zero_iff.1 HN.out.symm;have p8:IsPairs wc (.slice none 0 0) (l.take 0):=by rw[List.take_zero];exact isPairs_nil _ _ _
    have w8:Wh (.slice none 0 0):=Or.inl rfl;have p10:IsPairs wc (.slice none 0 0) (l.drop 0):=by rw[hl0];exact isPairs_nil _ _ _
    have w10:Wh (.slice none 0 0):=Or.inl rfl;clear hl0 e;obtain⟨v1,W1,happ1,row1,gr1,_⟩:=run_appP 30 wc wc.heap.size lRf (.slice none 0 0) (.slice none 0 0) [] (l.take 0) (World.ownsRow_nil _ _ _ _) p8 w8 (by simp);have bb1:Below wc.heap.size wc W1:=⟨gr1.os,gr1.tape,gr1.output,gr1.size,fun j hj=>gr1.block j hj (by simp[Value.ownBlock])⟩
    rw[List.nil_append] at row1;have bA:=bAl W1 (.cells #[.int .i64 r.1,.int .i64 r.2] 45);obtain⟨v2,W2,happ2,row2,gr2⟩:=run_appR1 30 (W1.alloc (.cells #[.int .i64 r.1,.int .i64 r.2] 45)) wc.heap.size (Nat.le_trans bb1.size bA.size) v1 r (l.take 0) (own_below row1 bA lRf) (by have:=HV.out.2.2.2;rw[List.length_take];omega) W1.heap.size (heap_alloc_new W1 _);have bb2:Below wc.heap.size wc W2:=(bb1.trans (bA.mono bb1.size)).grown gr2 (Nat.le_trans bb1.size bA.size) (fun j e=>(row1.lt j e).1);obtain⟨v3,W3,happ3,row3,gr3,_⟩:=run_appP 30 W2 wc.heap.size bb2.size v2 (.slice none 0 0) (l.take 0++[r]) (l.drop 0) row2 (p10.below bb2) w10 (by have:=HV.out.2.2.2;rw[List.length_append,List.length_take,List.length_drop];simp;omega);have bb3:Below wc.heap.size wc W3:=bb2.grown gr3 bb2.size (fun j e=>(row2.lt j e).1);have HF:Hid ((∃u,Ending.returned v3=.returned u∧IsPairs W3 u (putS l r)∧Wh u∧(u=.slice none 0 0∨∀b,u.ownBlock=some b→w.heap.size≤b∧b<W3.heap.size))∧Below w.heap.size w W3):=by
     refine⟨⟨v3,rfl,?_,?_,Or.inr fun b hb=>⟨Nat.le_trans HC.out.2.1.size (row3.lt b hb).1,(row3.lt b hb).2⟩⟩,HC.out.2.1.trans (bb3.mono HC.out.2.1.size)⟩
     ·rw[HE.out,show l.take 0++r::l.drop 0=l.take 0++[r]++l.drop 0 by simp];refine row3.pairs ?_ (fun x hx=>?_)
      ·have:=HV.out.2.2.2;rw[List.length_append,List.length_append,List.length_take,List.length_drop];simp;omega
      ·obtain⟨_,_,_,_,_,h3,_⟩:=HV.out.1;rcases List.mem_append.1 hx with hx | hx
       ·rcases List.mem_append.1 hx with hx | hx
        ·exact h3 x (List.mem_of_mem_take hx)
        ·rw[List.mem_singleton.1 hx];exact HV.out.2.2.1
       ·exact h3 x (List.mem_of_mem_drop hx)
     ·rcases row3.2 with⟨e,_⟩ | ⟨_,_,_,e,_⟩
      ·exact Or.inl e
      ·exact Or.inr ⟨_,_,_,e⟩
    obtain⟨q0,q1,-⟩:=cLs (heap_below HC.out.2.2 bb1 lRf);clear p8 w8 p10 w10 row1 row2 row3 gr1 gr2 gr3 bb1 bb2 bb3 bA;go_upto_region 9 with(first | (at_builtin;refine wp_append rfl _ _ 30 rfl _ _ _ _ rfl rfl happ1 ?_))
    clear happ1;go_upto_region 10 with(first | (at_builtin;refine wp_append rfl _ _ 30 rfl _ _ _ _ rfl rfl happ2 ?_))
    clear happ2 q0 q1;go_wp2_with (first | (at_builtin;refine wp_append rfl _ _ 30 rfl _ _ _ _ rfl rfl happ3 ?_));go_ret;exact HF.out
   ·obtain⟨rfl,rfl,rfl⟩:=Value.slice.inj e;clear e;by_cases hck:cap=k
    ·subst hck;have p8:IsPairs wc (.slice (some ad) cap cap) (l.take cap):=pairs_take HP.out cap HC.out.1;have w8:Wh (.slice (some ad) cap cap):=Or.inr ⟨_,_,_,rfl⟩;have p10:IsPairs wc (.slice (some ad) (n - cap) 0) (l.drop cap):=by
      have h1:=HN.out;have h2:=HC.out.1;have h3:=HKC.out;rw[List.drop_eq_nil_of_le (by omega),show n - cap=0 by omega];exact isPairs_nil _ _ _
     have w10:Wh (.slice (some ad) (n - cap) 0):=Or.inr ⟨_,_,_,rfl⟩;obtain⟨v1,W1,happ1,row1,gr1,_⟩:=run_appP 30 wc wc.heap.size lRf (.slice none 0 0) (.slice (some ad) cap cap) [] (l.take cap) (World.ownsRow_nil _ _ _ _) p8 w8 (by have:=HV.out.2.2.2;rw[List.length_take];simp;omega);have bb1:Below wc.heap.size wc W1:=⟨gr1.os,gr1.tape,gr1.output,gr1.size,fun j hj=>gr1.block j hj (by simp[Value.ownBlock])⟩
     rw[List.nil_append] at row1;have bA:=bAl W1 (.cells #[.int .i64 r.1,.int .i64 r.2] 45);obtain⟨v2,W2,happ2,row2,gr2⟩:=run_appR1 30 (W1.alloc (.cells #[.int .i64 r.1,.int .i64 r.2] 45)) wc.heap.size (Nat.le_trans bb1.size bA.size) v1 r (l.take cap) (own_below row1 bA lRf) (by have:=HV.out.2.2.2;rw[List.length_take];omega) W1.heap.size (heap_alloc_new W1 _);have bb2:Below wc.heap.size wc W2:=(bb1.trans (bA.mono bb1.size)).grown gr2 (Nat.le_trans bb1.size bA.size) (fun j e=>(row1.lt j e).1);obtain⟨v3,W3,happ3,row3,gr3,_⟩:=run_appP 30 W2 wc.heap.size bb2.size v2 (.slice (some ad) (n - cap) 0) (l.take cap++[r]) (l.drop cap) row2 (p10.below bb2) w10 (by have:=HV.out.2.2.2;rw[List.length_append,List.length_take,List.length_drop];simp;omega);have bb3:Below wc.heap.size wc W3:=bb2.grown gr3 bb2.size (fun j e=>(row2.lt j e).1);have HF:Hid ((∃u,Ending.returned v3=.returned u∧IsPairs W3 u (putS l r)∧Wh u∧(u=.slice (some ad) n cap∨∀b,u.ownBlock=some b→w.heap.size≤b∧b<W3.heap.size))∧Below w.heap.size w W3):=by
      refine⟨⟨v3,rfl,?_,?_,Or.inr fun b hb=>⟨Nat.le_trans HC.out.2.1.size (row3.lt b hb).1,(row3.lt b hb).2⟩⟩,HC.out.2.1.trans (bb3.mono HC.out.2.1.size)⟩
      ·rw[HE.out,show l.take cap++r::l.drop cap=l.take cap++[r]++l.drop cap by simp];refine row3.pairs ?_ (fun x hx=>?_)
       ·have:=HV.out.2.2.2;rw[List.length_append,List.length_append,List.length_take,List.length_drop];simp;omega
       ·obtain⟨_,_,_,_,_,h3,_⟩:=HV.out.1;rcases List.mem_append.1 hx with hx | hx
        ·rcases List.mem_append.1 hx with hx | hx
         ·exact h3 x (List.mem_of_mem_take hx)
         ·rw[List.mem_singleton.1 hx];exact HV.out.2.2.1
        ·exact h3 x (List.mem_of_mem_drop hx)
      ·rcases row3.2 with⟨e,_⟩ | ⟨_,_,_,e,_⟩
       ·exact Or.inl e
       ·exact Or.inr ⟨_,_,_,e⟩
     obtain⟨q0,q1,-⟩:=cLs (heap_below HC.out.2.2 bb1 lRf);clear p8 w8 p10 w10 row1 row2 row3 gr1 gr2 gr3 bb1 bb2 bb3 bA;go_upto_region 9 with(first | (at_builtin;refine wp_append rfl _ _ 30 rfl _ _ _ _ rfl rfl happ1 ?_))
     clear happ1;go_upto_region 10 with(first | (at_builtin;refine wp_append rfl _ _ 30 rfl _ _ _ _ rfl rfl happ2 ?_))
     clear happ2 q0 q1;go_wp2_with (first | (at_builtin;refine wp_append rfl _ _ 30 rfl _ _ _ _ rfl rfl happ3 ?_));go_ret;exact HF.out
    ·have p8:IsPairs wc (.slice (some ad) k cap) (l.take k):=pairs_take HP.out k HC.out.1;have w8:Wh (.slice (some ad) k cap):=Or.inr ⟨_,_,_,rfl⟩;have p10:IsPairs wc (.slice (some (ad.add (k*2))) (n - k) (cap - k)) (l.drop k):=by
      by_cases hl0:l=[]
      ·have h1:=HN.out;rw[hl0] at h1;rw[hl0,List.drop_nil,show n - k=0 by simp at h1;omega];exact isPairs_nil _ _ _
      ·obtain⟨a',c',e9,_,_,_,h4⟩:=id HP.out;obtain⟨b,off,e8,_⟩:=h4 hl0;obtain rfl:ad=⟨b,off,none⟩:=by have:=(Value.slice.inj e9).1;rw[e8] at this;injection this
       have:=pairs_drop HP.out k HC.out.1;have e7:(⟨b,off,none⟩:Addr).add (k*2)=⟨b,off+k*2,none⟩:=by unfold Addr.add;split <;> simp_all
       rw[e7];exact this
     have w10:Wh (.slice (some (ad.add (k*2))) (n - k) (cap - k)):=Or.inr ⟨_,_,_,rfl⟩;obtain⟨v1,W1,happ1,row1,gr1,_⟩:=run_appP 30 wc wc.heap.size lRf (.slice none 0 0) (.slice (some ad) k cap) [] (l.take k) (World.ownsRow_nil _ _ _ _) p8 w8 (by have:=HV.out.2.2.2;rw[List.length_take];simp;omega);have bb1:Below wc.heap.size wc W1:=⟨gr1.os,gr1.tape,gr1.output,gr1.size,fun j hj=>gr1.block j hj (by simp[Value.ownBlock])⟩
     rw[List.nil_append] at row1;have bA:=bAl W1 (.cells #[.int .i64 r.1,.int .i64 r.2] 45);obtain⟨v2,W2,happ2,row2,gr2⟩:=run_appR1 30 (W1.alloc (.cells #[.int .i64 r.1,.int .i64 r.2] 45)) wc.heap.size (Nat.le_trans bb1.size bA.size) v1 r (l.take k) (own_below row1 bA lRf) (by have:=HV.out.2.2.2;rw[List.length_take];omega) W1.heap.size (heap_alloc_new W1 _);have bb2:Below wc.heap.size wc W2:=(bb1.trans (bA.mono bb1.size)).grown gr2 (Nat.le_trans bb1.size bA.size) (fun j e=>(row1.lt j e).1);obtain⟨v3,W3,happ3,row3,gr3,_⟩:=run_appP 30 W2 wc.heap.size bb2.size v2 (.slice (some (ad.add (k*2))) (n - k) (cap - k)) (l.take k++[r]) (l.drop k) row2 (p10.below bb2) w10 (by have:=HV.out.2.2.2;rw[List.length_append,List.length_take,List.length_drop];simp;omega);have bb3:Below wc.heap.size wc W3:=bb2.grown gr3 bb2.size (fun j e=>(row2.lt j e).1);have HF:Hid ((∃u,Ending.returned v3=.returned u∧IsPairs W3 u (putS l r)∧Wh u∧(u=.slice (some ad) n cap∨∀b,u.ownBlock=some b→w.heap.size≤b∧b<W3.heap.size))∧Below w.heap.size w W3):=by
      refine⟨⟨v3,rfl,?_,?_,Or.inr fun b hb=>⟨Nat.le_trans HC.out.2.1.size (row3.lt b hb).1,(row3.lt b hb).2⟩⟩,HC.out.2.1.trans (bb3.mono HC.out.2.1.size)⟩
      ·rw[HE.out,show l.take k++r::l.drop k=l.take k++[r]++l.drop k by simp];refine row3.pairs ?_ (fun x hx=>?_)
       ·have:=HV.out.2.2.2;rw[List.length_append,List.length_append,List.length_take,List.length_drop];simp;omega
       ·obtain⟨_,_,_,_,_,h3,_⟩:=HV.out.1;rcases List.mem_append.1 hx with hx | hx
        ·rcases List.mem_append.1 hx with hx | hx
         ·exact h3 x (List.mem_of_mem_take hx)
         ·rw[List.mem_singleton.1 hx];exact HV.out.2.2.1
        ·exact h3 x (List.mem_of_mem_drop hx)
      ·rcases row3.2 with⟨e,_⟩ | ⟨_,_,_,e,_⟩
       ·exact Or.inl e
       ·exact Or.inr ⟨_,_,_,e⟩
     obtain⟨q0,q1,-⟩:=cLs (heap_below HC.out.2.2 bb1 lRf);clear p8 w8 p10 w10 row1 row2 row3 gr1 gr2 gr3 bb1 bb2 bb3 bA;go_upto_region 9 with(first | (at_builtin;refine wp_append rfl _ _ 30 rfl _ _ _ _ rfl rfl happ1 ?_))
     clear happ1;go_upto_region 10 with(first | (at_builtin;refine wp_append rfl _ _ 30 rfl _ _ _ _ rfl rfl happ2 ?_))
     clear happ2 q0 q1;go_wp2_with (first | (at_builtin;refine wp_append rfl _ _ 30 rfl _ _ _ _ rfl rfl happ3 ?_));go_ret;exact HF.out
end Go.Proofs.YtamhlgflbacjgaaGreat
