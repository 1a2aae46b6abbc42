/-
  What is proved: as each theorem says.
  Conditions: as each theorem says.
-/
import Derived.Test.YtamhlgflbacjgaaGreatG00
import Derived.Test.YtamhlgflbacjgaaGreatG45
import Derived.Test.YtamhlgflbacjgaaGreatG46
import Derived.Maps.RangeWalk
import Derived.Laws.EntriesVeiled
set_option maxRecDepth 100000
set_option maxHeartbeats 16000000
namespace Go.Proofs.YtamhlgflbacjgaaGreat
open Go.RowKit Go.Maps Go.Sort
def cmpN (ss:List Pr):Nat→List Pr
 | 0=>[]
 | p+1=>if p=0∨ss.getD p (0,0)≠ss.getD (p - 1) (0,0) then cmpN ss p++[ss.getD p (0,0)] else cmpN ss p
theorem getD_at {ss:List Pr} {p:Nat} (h:p<ss.length):ss.getD p (0,0)=ss[p]:=by rw[List.getD_eq_getElem?_getD,List.getElem?_eq_getElem h];rfl
theorem cmpN_len (ss:List Pr):∀p,(cmpN ss p).length≤p
 | 0=>lRf
 | p+1=>by
  have:=cmpN_len ss p;unfold cmpN;split
  ·rw[List.length_append];simp;omega
  ·omega
theorem cmpN_mem (ss:List Pr) (x:Pr):∀p,p≤ss.length→(x∈cmpN ss p↔x∈ss.take p)
 | 0,_=>by simp[cmpN]
 | p+1,h=>by
  have ih:=cmpN_mem ss x p (by omega);rw[take_snocE ss p (by omega),List.mem_append,List.mem_singleton];unfold cmpN;by_cases hc:p=0∨ss.getD p (0,0)≠ss.getD (p - 1) (0,0)
  ·rw[if_pos hc,List.mem_append,List.mem_singleton,ih,getD_at (by omega)]
  ·rw[if_neg hc,ih];refine⟨Or.inl,fun e=>e.elim id fun e=>?_⟩;have h1:¬p=0:=fun e=>hc (Or.inl e);have h2:ss.getD p (0,0)=ss.getD (p - 1) (0,0):=Classical.byContradiction fun e=>hc (Or.inr e);rw[getD_at (by omega),getD_at (by omega)] at h2;rw[e,h2];rw[List.mem_take_iff_getElem];exact⟨p - 1,by omega,rfl⟩
theorem riseW_at {ss:List Pr} (h:RiseW ss) {i j:Nat} (hi:i<ss.length) (hj:j<ss.length) (hij:i≤j):ss[i]=ss[j]∨ltR ss[i] ss[j]:=by
 rcases Nat.lt_or_ge i j with h1 | h1
 ·have h2:=List.pairwise_iff_getElem.1 h i j hi hj h1;by_cases e:ss[i]=ss[j]
  ·exact Or.inl e
  ·exact Or.inr (ltR_total (fun e2=>e e2.symm) h2)
 ·obtain rfl:i=j:=by omega
  exact Or.inl rfl
theorem cmpN_rise {ss:List Pr} (h:RiseW ss):∀p,p≤ss.length→Rise (cmpN ss p)
 | 0,_=>List.Pairwise.nil
 | p+1,hp=>by
  have ih:=cmpN_rise h p (by omega);unfold cmpN;by_cases hc:p=0∨ss.getD p (0,0)≠ss.getD (p - 1) (0,0)
  ·rw[if_pos hc];unfold Rise;rw[List.pairwise_append];refine⟨ih,by simp,fun x hx y hy=>?_⟩;rw[List.mem_singleton.1 hy,getD_at (by omega)];rw[cmpN_mem ss x p (by omega),List.mem_take_iff_getElem] at hx;obtain⟨i,hi,rfl⟩:=hx;have hp0:¬p=0:=by omega
   have hne:ss[p]≠ss[p - 1]:=by
    rcases hc with e | e
    ·exact absurd e hp0
    ·rw[getD_at (by omega),getD_at (by omega)] at e;exact e
   have h1:=riseW_at h (i:=i) (j:=p - 1) (by omega) (by omega) (by omega);have h2:=riseW_at h (i:=p - 1) (j:=p) (by omega) (by omega) (by omega);have h3:ltR ss[p - 1] ss[p]:=h2.elim (fun e=>absurd e.symm hne) id;rcases h1 with e | e
   ·rw[e];exact h3
   ·exact ltR_trans e h3
  ·rw[if_neg hc];exact ih
theorem cmpN_all {ss:List Pr}:∀p,p≤ss.length→(∀j,1≤j→j<p→ss.getD j (0,0)≠ss.getD (j - 1) (0,0))→cmpN ss p=ss.take p
 | 0,_,_=>by simp[cmpN]
 | p+1,h,hd=>by
  have ih:=cmpN_all p (by omega) (fun j h1 h2=>hd j h1 (by omega));unfold cmpN;rw[if_pos (by
   rcases Nat.eq_zero_or_pos p with e | e
   ·exact Or.inl e
   ·exact Or.inr (hd p e (by omega))),ih,take_snocE ss p (by omega),getD_at (by omega)]
theorem row_natP {w:World} {T B n c:Nat} {a:Option Addr} {l:List Pr} (h:RowPr T B (.slice a n c) l w) (hn:l.length=n):w.ownsRow B T 2 (.slice a n c) n (pcells l):=by subst hn;exact h
theorem rowPr_cells {w:World} {T B g n c:Nat} {l:List Pr} (h:RowPr T B (.slice (some ⟨g,0,none⟩) n c) l w) (hn:l.length=n) {k:Nat} (hk:k<n):w.cell? ⟨g,k*2,none⟩=some (.int .i64 (l.getD k (0,0)).1)∧w.cell? ⟨g,k*2+1,none⟩=some (.int .i64 (l.getD k (0,0)).2):=by
 have h1:=row_natP h hn;have h2:=pcells_at l k (by omega);rw[getD_at (by omega),h1.cellAt (k*2) (by omega),h1.cellAt (k*2+1) (by omega)];exact h2
def CmpP (base:Nat) (ss:List Pr) (v:Value) (w:World) (e:Ending) (w':World):Prop:=
 ∃u,e=.returned u∧RowPr 45 base u (cmpN ss ss.length) w'∧w.grownBy w' v.ownBlock
theorem compact_any (v:Value) (base:Nat) (ss:List Pr) (w:World) (hR:RowPr 45 base v ss w) (hl:ss.length≤1000000):
 Calls Tryz.prog 53 #[v] w fun e w'=>CmpP base ss v w e w':=by
 obtain⟨va,vc,rfl⟩:=slice_rowM hR;obtain⟨n,hn⟩:=gNz (ss.length);rw[hn] at hR ⊢;have HN:=hY2 hn ((by omega):n≤1000000);by_cases h2:n<2
 ·have HE:Hid (RowPr 45 base (.slice va n vc) (cmpN ss n) w):=by
   show RowPr _ _ _ _ _;rw[cmpN_all n (by omega) (fun j h1 h3=>by omega),←hn,List.take_length,hn];exact hR
  have h2':(n:Int)<2:=by omega
  clear hR hn h2 hl;go_enter Tryz.func53,Tryz.ntmps53
  go_wp2;go_ret;exact⟨_,rfl,by rw[HN.out.1];exact HE.out,⟨rfl,rfl,rfl,lRf,fun _ _ _=>rfl⟩⟩
 ·obtain⟨g,hg⟩:∃g,va=some ⟨g,0,none⟩:=by
   rcases hR.2 with⟨e,e2⟩ | ⟨g',cap',cur,e,_⟩
   ·omega
   ·exact⟨g',(Value.slice.inj e).1⟩
  subst hg;obtain⟨gcur,hgc,hcap,hcs⟩:∃cur,w.heap[g]?=some (.cells cur 45)∧n≤vc∧cur.size=vc*2:=by
   rcases hR.2 with⟨e,_⟩ | ⟨g',c',cur,e,_,hh,hc,_,hz,_⟩
   ·cases e
   ·have e1:=Value.slice.inj e;obtain rfl:g=g':=by have:=Option.some.inj e1.1;simpa using this
    obtain rfl:=e1.2.2;exact⟨cur,hh,by omega,hz⟩
  have HA:=hY3 hR hcap ((by omega):2≤n);have h2':¬(n:Int)<2:=by omega
  clear hR hn hgc hcap hcs hl h2;clear gcur;go_enter Tryz.func53,Tryz.ntmps53
  go_wp2_with fail;clear h2';go_loopw [3] (fun xk wr=>∃k:Nat,k≤n∧1≤k∧xk=.int .i64 k∧Hid ((∀j,1≤j→j<k→ss.getD j (0,0)≠ss.getD (j - 1) (0,0))∧RowPr 45 base (.slice (some ⟨g,0,none⟩) n vc) ss wr∧w.grownBy wr (some g))) (fun xk _=>n - (RowKit.intOf xk).toNat)
  case atStart=>exact⟨1,by have:=HA.out.2.2;omega,lRf,rfl,(fun j h1 h2=>by omega),HA.out.1,⟨rfl,rfl,rfl,lRf,fun _ _ _=>rfl⟩⟩
  case round=>
   obtain⟨k,hk,hk0,rfl,hW⟩:=hrel;by_cases hlt:k<n
   ·obtain⟨k1,hk1⟩:∃z:Nat,k=z+1:=⟨k - 1,by omega⟩
    obtain⟨x0,x1⟩:=rowPr_cells hW.out.2.1 HN.out.1 hlt;obtain⟨y0,y1⟩:=rowPr_cells hW.out.2.1 HN.out.1 (k:=k1) (by omega);obtain⟨a,ha⟩:=gNz (ss.getD k (0,0):Pr);obtain⟨b,hb⟩:=gNz (ss.getD k1 (0,0):Pr);rw[ha] at x0 x1;rw[hb] at y0 y1;have HAB:=hY4 ha hb hk1 hlt;have HW:Hid ((∀j,1≤j→j<k→ss.getD j (0,0)≠ss.getD (j - 1) (0,0))∧RowPr 45 base (.slice (some ⟨g,0,none⟩) n vc) ss wr∧w.grownBy wr (some g)):=hW;have hw:IntKind.i64.wrap ((k:Int) - 1)=(k1:Int):=by rw[show(k:Int) - 1=k1 by omega];exact IntWalk.i64_in _ (by have:=HN.out.2;omega)
    have EQ:=eqR a b;obtain⟨sb,hsb⟩:=gNz (samePr a b:Bool);rw[hsb] at EQ;have HS:Hid (samePr a b=sb):=hsb;have g1:(k:Int)<n:=by omega
    have g2:(0:Int)≤k:=by omega
    have g3:(k1:Int)<n:=by omega
    have g4:(0:Int)≤k1:=by omega
    clear ha hb hk1 hlt hk hk0 hW hsb;go_upto_region 6 with fail
    refine rNh (fun W=>W.cell? ⟨g,k*2,none⟩=some (.int .i64 a.1)∧W.cell? ⟨g,k*2+1,none⟩=some (.int .i64 a.2)∧W.cell? ⟨g,k1*2,none⟩=some (.int .i64 b.1)∧W.cell? ⟨g,k1*2+1,none⟩=some (.int .i64 b.2)) (⟨x0,x1,y0,y1⟩) (fun hHeld=>?_);refine tk 0 rfl ?_;refine tk 1 rfl ?_;refine tk 2 rfl ?_;refine tk 3 rfl ?_;refine tk 4 rfl ?_;refine tk 5 rfl ?_;refine tk 6 rfl ?_;refine tk 7 rfl ?_;refine tk 8 rfl ?_;refine tk 9 rfl ?_;refine wDn ?_;clear hHeld x0 x1 y0 y1 EQ hw;have HD:Hid (RowPr 45 base (.slice (some ⟨g,0,none⟩) n vc) ss wr.drew∧w.grownBy wr.drew (some g)):=⟨own_below HW.out.2.1 (Below.refl _ _).drew lRf,by have h:=HW.out.2.2;exact⟨h.os,h.tape,h.output,h.size,h.block⟩⟩
    cases sb with
    | false=>
     have HNE:Hid (∀j,1≤j→j<k+1→ss.getD j (0,0)≠ss.getD (j - 1) (0,0)):=fun j h1 h2=>by
      rcases Nat.lt_or_ge j k with h3 | h3
      ·exact HW.out.1 j h1 h3
      ·obtain rfl:j=k:=by omega
       have h4:=HAB.out;rw[h4.1,show j - 1=k1 by omega,h4.2.1];intro e;have:=(samePr_iff a b).2 e;rw[HS.out] at this;cases this
     clear HS HW;generalize wr.drew=wd at *;go_upto_region 5 with fail
     have gm:(k:Int)<1000000:=by have:=HAB.out;have:=HN.out;omega
     go_wp2;go_roundw
     case rel=>have h4:=HAB.out;exact⟨k+1,by omega,by omega,by go_num,HNE.out,HD.out⟩
     case measure=>have h4:=HAB.out;simp[RowKit.intOf];omega
    | true=>
     -- two are one: from here on those that are left move up
     have HK0:Hid (cmpN ss (k+1)=ss.take k∧(ss.take k).length=k):=by
      have h4:=HAB.out;have h5:=(samePr_iff a b).1 HS.out;have h6:cmpN ss k=ss.take k:=cmpN_all k (by have:=HN.out;omega) HW.out.1;refine⟨?_,by rw[List.length_take];have:=HN.out;omega⟩;show(if k=0∨ss.getD k (0,0)≠ss.getD (k - 1) (0,0) then _ else _)=_;rw[if_neg (by
       rintro(e | e)
       ·omega
       ·exact e (by rw[h4.1,show k - 1=k1 by omega,h4.2.1,h5])),h6]
     clear HS HW;generalize wr.drew=wd at *;have gk:(k:Int)≤n:=by have:=HAB.out;omega
     have gc:(n:Int)≤vc:=by have:=HA.out.2.1;omega
     have gn:¬vc=k:=by have:=HAB.out;have:=HA.out.2.1;omega
     obtain⟨K0,hK0⟩:=gNz (k:Nat);have HKK:Hid (K0<n∧1≤K0):=by have h4:=HAB.out;exact⟨by omega,by omega⟩
     rw[hK0] at HK0 gk gn ⊢;have HST:Hid (RowPr 45 base (.slice (some ⟨g,0,none⟩) n vc) (cmpN ss (K0+1)++[]++ss.drop K0) wd∧(cmpN ss (K0+1)).length=K0∧w.grownBy wd (some g)):=by
      refine⟨?_,by rw[HK0.out.1];exact HK0.out.2,HD.out.2⟩;rw[HK0.out.1,List.append_nil,List.take_append_drop];exact HD.out.1
     clear HAB HD HK0 hK0;obtain⟨m,hm⟩:=gNz (n - K0:Nat);have HM:=hY2 hm ((by have:=HKK.out;omega):K0+m=n);go_wp2_with fail;try rw[hm]
     clear gk gc gn hm;go_loopw [3,5] (fun xk xj wr=>∃(k2 f:Nat) (mid:List Pr),1≤k2∧k2≤m∧xj=.int .i64 k2∧xk=.int .i64 f∧Hid (RowPr 45 base (.slice (some ⟨g,0,none⟩) n vc) (cmpN ss (K0+k2)++mid++ss.drop (K0+k2 - 1)) wr∧(cmpN ss (K0+k2)).length=f∧f+mid.length=K0+k2 - 1∧w.grownBy wr (some g))) (fun _ xj _=>m - (RowKit.intOf xj).toNat)
     case atStart=>exact⟨1,K0,[],lRf,by have:=HM.out;have:=HKK.out;omega,rfl,rfl,HST.out.1,HST.out.2.1,by simp,HST.out.2.2⟩
     case round=>
      clear HST;obtain⟨k2,f,mid,hk1,hk2,rfl,rfl,hW⟩:=hrel;have hml:(cmpN ss (K0+k2)++mid++ss.drop (K0+k2 - 1)).length=n:=by
       rw[List.length_append,List.length_append,hW.out.2.1,List.length_drop,HN.out.1];have:=hW.out.2.2.1;have:=HM.out.2;omega
      by_cases hlt:k2<m
      ·obtain⟨j1,hj1⟩:∃z:Nat,k2=z+1:=⟨k2 - 1,by omega⟩
       have hpn:K0+k2<n:=by have:=HM.out.2;omega
       have hd1:ss.drop (K0+k2 - 1)=ss.getD (K0+j1) (0,0)::ss.drop (K0+k2):=by
        have h9:K0+k2 - 1=K0+j1:=by omega
        rw[h9,getD_at (by rw[HN.out.1];omega),List.drop_eq_getElem_cons (by rw[HN.out.1];omega),show K0+j1+1=K0+k2 by omega]
       have hd2:ss.drop (K0+k2)=ss.getD (K0+k2) (0,0)::ss.drop (K0+k2+1):=by
        rw[getD_at (by rw[HN.out.1];omega),List.drop_eq_getElem_cons (by rw[HN.out.1];omega)]
       obtain⟨a,ha⟩:=gNz (ss.getD (K0+k2) (0,0):Pr);obtain⟨b,hb⟩:=gNz (ss.getD (K0+j1) (0,0):Pr);rw[hb] at hd1;rw[ha] at hd2;have hga:(cmpN ss (K0+k2)++mid++ss.drop (K0+k2 - 1)).getD (K0+k2) (0,0)=a:=by
        rw[hd1,hd2,List.getD_eq_getElem?_getD,List.getElem?_append_right (by rw[List.length_append,hW.out.2.1];have:=hW.out.2.2.1;omega),List.length_append,hW.out.2.1,hW.out.2.2.1,show K0+k2 - (K0+k2 - 1)=1 by omega];rfl
       have hgb:(cmpN ss (K0+k2)++mid++ss.drop (K0+k2 - 1)).getD (K0+j1) (0,0)=b:=by
        rw[hd1,List.getD_eq_getElem?_getD,List.getElem?_append_right (by rw[List.length_append,hW.out.2.1];have:=hW.out.2.2.1;omega),List.length_append,hW.out.2.1,hW.out.2.2.1,show K0+j1 - (K0+k2 - 1)=0 by omega];rfl
       obtain⟨x0,x1⟩:=rowPr_cells hW.out.1 hml hpn;obtain⟨y0,y1⟩:=rowPr_cells hW.out.1 hml (k:=K0+j1) (by omega);obtain⟨c0,c1⟩:=rowPr_cells hW.out.1 hml (k:=f) (by have:=hW.out.2.2.1;omega);rw[hga,show(K0+k2)*2=K0*2+k2*2 by omega] at x0 x1;rw[hgb,show(K0+j1)*2=K0*2+j1*2 by omega] at y0 y1;generalize ((cmpN ss (K0+k2)++mid++ss.drop (K0+k2 - 1)).getD f (0,0)).1=u0 at c0;generalize ((cmpN ss (K0+k2)++mid++ss.drop (K0+k2 - 1)).getD f (0,0)).2=u1 at c1;obtain⟨gcur,hgc⟩:=own_typeM hW.out.1 (b:=g) rfl;have ff:=fRz hgc;have zg:=lt_of_heap hgc;have HAB:=hY5 ha hb hj1 hlt hpn;have HDR:Hid (ss.drop (K0+k2 - 1)=b::ss.drop (K0+k2)):=hd1;have HCS:Hid (cmpN ss (K0+k2+1)=if a≠b then cmpN ss (K0+k2)++[a] else cmpN ss (K0+k2)):=by
        show(if K0+k2=0∨ss.getD (K0+k2) (0,0)≠ss.getD (K0+k2 - 1) (0,0) then cmpN ss (K0+k2)++[ss.getD (K0+k2) (0,0)] else cmpN ss (K0+k2))=_;rw[show K0+k2 - 1=K0+j1 by omega,ha,hb];by_cases e:a=b
        ·rw[if_neg (fun h=>h.elim (fun h=>absurd h (by omega)) (fun h=>h e)),if_neg (fun h=>h e)]
        ·rw[if_pos (Or.inr e),if_pos e]
       have HW:Hid (RowPr 45 base (.slice (some ⟨g,0,none⟩) n vc) (cmpN ss (K0+k2)++mid++ss.drop (K0+k2 - 1)) wr∧(cmpN ss (K0+k2)).length=f∧f+mid.length=K0+k2 - 1∧w.grownBy wr (some g)):=hW;have hw:IntKind.i64.wrap ((k2:Int) - 1)=(j1:Int):=by rw[show(k2:Int) - 1=j1 by omega];exact IntWalk.i64_in _ (by have:=HN.out.2;omega)
       have EQ:=eqR a b;obtain⟨sb,hsb⟩:=gNz (samePr a b:Bool);rw[hsb] at EQ;have HS:Hid (samePr a b=sb):=hsb;have g1:(k2:Int)<m:=by omega
       have g2:(0:Int)≤k2:=by omega
       have g3:(j1:Int)<m:=by omega
       have g4:(0:Int)≤j1:=by omega
       have HMF:Hid (f<n):=by have:=hW.out.2.2.1;show _<_;omega
       have HC:=hY6 c0 c1 ff zg x0 x1;clear ha hb hd1 hd2 hga hgb hj1 hlt hpn hml hk1 hk2 hW hsb c0 c1 ff zg hgc;clear gcur;go_upto_region 11 with fail
       refine rNh (fun W=>W.cell? ⟨g,K0*2+k2*2,none⟩=some (.int .i64 a.1)∧W.cell? ⟨g,K0*2+k2*2+1,none⟩=some (.int .i64 a.2)∧W.cell? ⟨g,K0*2+j1*2,none⟩=some (.int .i64 b.1)∧W.cell? ⟨g,K0*2+j1*2+1,none⟩=some (.int .i64 b.2)) (⟨x0,x1,y0,y1⟩) (fun hHeld=>?_);refine tk 0 rfl ?_;refine tk 1 rfl ?_;refine tk 2 rfl ?_;refine tk 3 rfl ?_;refine tk 4 rfl ?_;refine tk 5 rfl ?_;refine tk 6 rfl ?_;refine tk 7 rfl ?_;refine tk 8 rfl ?_;refine tk 9 rfl ?_;refine wDn ?_;clear hHeld x0 x1 y0 y1 EQ hw;have HD:Hid (RowPr 45 base (.slice (some ⟨g,0,none⟩) n vc) (cmpN ss (K0+k2)++mid++ss.drop (K0+k2 - 1)) wr.drew∧w.grownBy wr.drew (some g)):=⟨own_below HW.out.1 (Below.refl _ _).drew lRf,by have h:=HW.out.2.2.2;exact⟨h.os,h.tape,h.output,h.size,h.block⟩⟩
       have HL:=hY2 HW.out.2.1 HW.out.2.2.1;obtain⟨c0,c1,ff,zg,x0,x1⟩:wr.drew.cell? ⟨g,f*2,none⟩=some (.int .i64 u0)∧wr.drew.cell? ⟨g,f*2+1,none⟩=some (.int .i64 u1)∧(∀j,wr.drew.frozen? ⟨g,j,none⟩=false)∧g<wr.drew.heap.size∧wr.drew.cell? ⟨g,K0*2+k2*2,none⟩=some (.int .i64 a.1)∧wr.drew.cell? ⟨g,K0*2+k2*2+1,none⟩=some (.int .i64 a.2):=HC.out;clear HW HC;generalize wr.drew=wd2 at *;cases sb with
       | true=>
        have HNX:Hid (RowPr 45 base (.slice (some ⟨g,0,none⟩) n vc) (cmpN ss (K0+(k2+1))++(mid++[b])++ss.drop (K0+(k2+1) - 1)) wd2∧(cmpN ss (K0+(k2+1))).length=f∧f+(mid++[b]).length=K0+(k2+1) - 1):=by
         have e1:=(samePr_iff a b).1 HS.out;have e2:=HCS.out;rw[if_neg (fun h=>h e1)] at e2;have e3:K0+(k2+1)=K0+k2+1:=by omega
         rw[e3,e2,show K0+k2+1 - 1=K0+k2 by omega];refine⟨?_,HL.out.1,by rw[List.length_append];have:=HL.out.2;have:=HAB.out;simp;omega⟩;have h9:=HD.out.1;rw[HDR.out] at h9;have e4:cmpN ss (K0+k2)++(mid++[b])++ss.drop (K0+k2)=cmpN ss (K0+k2)++mid++b::ss.drop (K0+k2):=by simp
         rw[e4];exact h9
        clear HS HCS c0 c1 ff zg x0 x1;go_upto_region 10 with fail
        have gm:(k2:Int)<1000000:=by have:=HAB.out;have:=HN.out;omega
        go_wp2;go_roundw
        case rel=>have h4:=HAB.out;exact⟨k2+1,f,mid++[b],by omega,by omega,by go_num,rfl,HNX.out.1,HNX.out.2.1,HNX.out.2.2,HD.out.2⟩
        case measure=>have h4:=HAB.out;simp[RowKit.intOf];omega
       | false=>
        obtain⟨r0,rt,hrt⟩:∃r0 rt,mid++[b]=r0::rt:=by cases mid with | nil=>exact⟨b,[],rfl⟩ | cons x y=>exact⟨x,y++[b],rfl⟩
        have HNX:Hid (RowPr 45 base (.slice (some ⟨g,0,none⟩) n vc) (cmpN ss (K0+(k2+1))++rt++ss.drop (K0+(k2+1) - 1)) ((wd2.setCell ⟨g,f*2,none⟩ (.int .i64 a.1)).setCell ⟨g,f*2+1,none⟩ (.int .i64 a.2))∧(cmpN ss (K0+(k2+1))).length=f+1∧(f+1)+rt.length=K0+(k2+1) - 1∧w.grownBy ((wd2.setCell ⟨g,f*2,none⟩ (.int .i64 a.1)).setCell ⟨g,f*2+1,none⟩ (.int .i64 a.2)) (some g)):=by
         have e1:a≠b:=fun e=>by have:=(samePr_iff a b).2 e;rw[HS.out] at this;cases this
         have e2:=HCS.out;rw[if_pos e1] at e2;have e3:K0+(k2+1)=K0+k2+1:=by omega
         rw[e3,e2,show K0+k2+1 - 1=K0+k2 by omega];have hl9:(mid++[b]).length=(r0::rt).length:=by rw[hrt]
         refine⟨?_,by rw[List.length_append,HL.out.1];rfl,by rw[List.length_append] at hl9;simp at hl9;have:=HL.out.2;have:=HAB.out;omega,?_⟩
         ·have h9:=HD.out.1;rw[HDR.out] at h9;have e4:cmpN ss (K0+k2)++mid++b::ss.drop (K0+k2)=cmpN ss (K0+k2)++((r0::rt)++ss.drop (K0+k2)):=by rw[←hrt];simp
          rw[e4] at h9;have h10:=rowPr_set h9 f (by rw[List.length_append,HL.out.1];simp) a;have e5:(cmpN ss (K0+k2)++((r0::rt)++ss.drop (K0+k2))).set f a=cmpN ss (K0+k2)++[a]++rt++ss.drop (K0+k2):=by
           rw[List.set_append_right _ _ (by rw[HL.out.1];exact lRf),HL.out.1,Nat.sub_self,List.cons_append,List.set_cons_zero];simp
          rw[e5] at h10;exact h10
         ·have k1:=HD.out.2;have sz:∀{W:World} (o:Nat) (x:Value),w.grownBy W (some g)→w.grownBy (W.setCell ⟨g,o,none⟩ x) (some g):=fun {W} o x h=>⟨h.os,h.tape,h.output,by simpa using h.size,fun k hk hne=>by rw[Below.heap_setCell _ _ _ k (by intro e;exact hne (by rw[show k=g from by simpa using e]))];exact h.block k hk hne⟩
          exact sz _ _ (sz _ _ k1)
        have gf1:(f:Int)<n:=by have:=HMF.out;omega
        have gf0:(0:Int)≤f:=by omega
        clear HS HCS hrt;go_upto_region 13 with fail
        clear c0 c1 ff zg x0 x1 gf1;generalize (wd2.setCell ⟨g,f*2,none⟩ (.int .i64 a.1)).setCell ⟨g,f*2+1,none⟩ (.int .i64 a.2)=wz at *;have gm2:(f:Int)<1000000:=by have:=HMF.out;have:=HN.out;omega
        go_upto_region 10 with fail
        clear gm2;have gm:(k2:Int)<1000000:=by have:=HAB.out;have:=HN.out;omega
        go_wp2;go_roundw
        case rel=>have h4:=HAB.out;exact⟨k2+1,f+1,rt,by omega,by omega,by go_num,by first | rfl | go_num | (congr 1;unfold wrap64;have:=HMF.out;have:=HN.out;omega),HNX.out⟩
        case measure=>have h4:=HAB.out;simp[RowKit.intOf];omega
      ·have hke:¬(k2:Int)<m:=by omega
       have hkm:K0+k2=n:=by have:=HM.out;omega
       rw[hkm] at hW hml;have hrest:f+(mid++ss.drop (n - 1)).length=n:=by
        rw[List.length_append,List.length_append,hW.out.2.1] at hml;rw[List.length_append];omega
       obtain⟨q,hq⟩:=gNz ((mid++ss.drop (n - 1)).length:Nat);rw[hq] at hrest;have hq0:0<q:=by
        rw[←hq,List.length_append,List.length_drop,HN.out.1];have:=HA.out.2.2;omega
       have hrow:=hW.out.1;rw[List.append_assoc] at hrow;have hcut:=rowPr_cut hrow q (f:=cmpN ss n) (by rw[List.drop_append_of_le_length lRf,List.drop_length,List.nil_append]) (by rw[List.length_append,hq]);rw[hW.out.2.1] at hcut;obtain⟨gcur,hgc,hgs⟩:∃cur,wr.heap[g]?=some (.cells cur 45)∧n*2≤cur.size:=by
        rcases hrow.2 with⟨e,_⟩ | ⟨g',c',cur,e,_,hh,hc,_,hz,_⟩
        ·cases e
        ·have e1:=(Value.slice.inj e).1;have:g=g':=by have:=Option.some.inj e1;simpa using this
         subst this;refine⟨cur,hh,?_⟩;rw[List.length_append,hW.out.2.1,hq] at hc;omega
       have hrun:=run_clearRn wr 0 g (f*2) q (vc - f) hq0 (fun t ht=>by simp[World.cell?,hgc];omega) (fun t _=>fRz hgc _);have HP:=hY2 hcut.1 (hW.out.2.2.2.trans hcut.2);have gf2:(f:Int)≤n:=by omega
       have gf3:(f:Int)≤vc:=by have:=HA.out.2.1;omega
       have gf4:n - f=q:=by omega
       have gf5:¬vc=f:=by have:=HA.out.2.1;omega
       clear hlt hk1 hk2 hW hml hkm hrest hq hq0 hrow hcut hgc hgs;clear gcur;go_wp2_with (first | (at_builtin;refine wp_clear rfl _ 30 rfl _ _ _ rfl hrun ?_));go_ret;exact⟨_,rfl,by rw[HN.out.1];exact HP.out.1,HP.out.2⟩
   ·have hke:¬(k:Int)<n:=by omega
    have HE:Hid (RowPr 45 base (.slice (some ⟨g,0,none⟩) n vc) (cmpN ss n) wr∧w.grownBy wr (some g)):=by
     obtain rfl:k=n:=by omega
     refine⟨?_,hW.out.2.2⟩;rw[cmpN_all k (by have:=HN.out;omega) hW.out.1,←HN.out.1,List.take_length,HN.out.1];exact hW.out.2.1
    clear hlt hk hk0 hW;go_wp2;go_ret;exact⟨_,rfl,by rw[HN.out.1];exact HE.out.1,HE.out.2⟩
end Go.Proofs.YtamhlgflbacjgaaGreat
namespace Go.Proofs.YtamhlgflbacjgaaGreat
open Go.RowKit Go.Maps
def Hung (EH:List CE) (L:List (Pr×Value)):Prop:=Ones L∧∀d∈L.map (·.1),∃p∈EH,d∈p.1.deps
theorem Hung.put {EH:List CE} {L:List (Pr×Value)} (h:Hung EH L) {p:CE} (hp:p∈EH) {d:Pr} (hd:d∈p.1.deps):Hung EH (putL L d (.int .i64 1)):=by
 unfold putL;refine⟨fun x hx=>?_,fun r hr=>?_⟩
 ·rcases List.mem_append.1 hx with e | e
  ·exact h.1 x (List.mem_filter.1 e).1
  ·rw[List.mem_singleton.1 e]
 ·rw[List.map_append] at hr;rcases List.mem_append.1 hr with e | e
  ·obtain⟨x,hx,rfl⟩:=List.mem_map.1 e;exact h.2 _ (List.mem_map.2 ⟨x,(List.mem_filter.1 hx).1,rfl⟩)
  ·simp at e;subst e;exact⟨p,hp,hd⟩
theorem hung_few {EH:List CE} {L:List (Pr×Value)} (h:Hung EH L) (hn:(L.map (·.1)).Nodup) (hc:∀p∈EH,p.1.deps.length≤12) (hm:EH.length≤120):L.length<1000000:=by
 have h1:=nodup_len (K:=EH.flatMap fun p=>p.1.deps) hn (fun x hx=>by
  obtain⟨p,hp,hd⟩:=h.2 x hx;exact List.mem_flatMap.2 ⟨p,hp,hd⟩)
 have h2:(EH.flatMap fun p=>p.1.deps).length≤EH.length*12:=by
  clear h h1 hm
  induction EH with
  | nil=>simp
  | cons x E ih=>
   rw[List.flatMap_cons,List.length_append,List.length_cons];have:=hc x (by simp);have:=ih (fun p hp=>hc p (List.mem_cons_of_mem _ hp));omega
 rw[List.length_map] at h1;omega
theorem hung_nil (EH:List CE):Hung EH []:=by
 refine⟨?_,?_⟩
 ·intro x hx;simp at hx
 ·intro d hd;simp at hd
def HeadIn (w:World) (EH:List CE) (LM:List (Pr×Value)) (wr:World):Prop:=
 MapL wr w.heap.size LM∧Hung EH LM∧wr.heap[w.heap.size+1]?=some (.cells #[.map (some w.heap.size)] 86)∧Below w.heap.size w wr∧w.heap.size+3≤wr.heap.size
theorem HeadIn.below {w:World} {EH:List CE} {LM:List (Pr×Value)} {wr V:World} (h:HeadIn w EH LM wr) (b:Below wr.heap.size wr V):HeadIn w EH LM V:=
 ⟨h.1.below b,h.2.1,heap_below h.2.2.1 b lRf,h.2.2.2.1.trans (b.mono h.2.2.2.1.size),Nat.le_trans h.2.2.2.2 b.size⟩
theorem delF_nil (f:FuncId) (eg:∀args w,(callFunc f args).run Tryz.prog w=.ok (.enter f args) w) (c:Value) (w:World):
 Calls Tryz.prog 44 #[.slice none 0 0,.func (Fn.func f) #[] #[c]] w fun e w'=>e=.returned (.slice none 0 0)∧Below w.heap.size w w':=by
 have E0:=idx_any f eg c (fun _=>false) (.slice none 0 0) [] w ⟨none,0,rfl,by simp,by simp,by simp,fun e=>absurd rfl e⟩ (fun r hr=>by simp at hr);simp only[idxP] at E0;go_enter Tryz.func44,Tryz.ntmps44
 go_wp2_with fail;go_fit E0;rintro e w1 ⟨rfl,b1⟩;clear E0;go_wp2;go_ret;exact⟨rfl,b1⟩
end Go.Proofs.YtamhlgflbacjgaaGreat
