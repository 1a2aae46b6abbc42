/-
  What is proved: as each theorem says.
  Conditions: as each theorem says.
-/
import Derived.Test.YtamhlgflbacjgaaGreatG00
import Derived.Test.YtamhlgflbacjgaaGreatG09
import Derived.Test.YtamhlgflbacjgaaGreatG38
import Derived.Test.YtamhlgflbacjgaaGreatG15
import Derived.Test.YtamhlgflbacjgaaGreatG19
import Derived.Test.YtamhlgflbacjgaaGreatG06
import Derived.Test.YtamhlgflbacjgaaGreatG12
import Derived.Lib.SliceRun
set_option maxRecDepth 100000
set_option maxHeartbeats 16000000
namespace Go.Proofs.YtamhlgflbacjgaaGreat
open Go.RowKit Go.Maps
theorem addL_any (w:World) (g h q:Nat) (LH LW:List (Pr×Value)) (D:List Pr) (lv v:Value) (rs:List Pr) (W:World) (Bw:BookAt w g h q LH LW) (hC:∀q∈LH,CV q.2) (hv:IsPairs w v rs) (B:Bh w g LH D lv W) (hn:D.length+rs.length≤900000):
 Calls Tryz.prog 81 #[v,.pointer (some ⟨w.heap.size+3,0,none⟩),.pointer (some ⟨w.heap.size+1,0,none⟩),.pointer (some ⟨w.heap.size,0,none⟩)] W fun e w'=>e=.returned (.tuple #[])∧∃nv,Bh w g LH (addR D rs) nv w':=by
 obtain⟨a,cap,rfl,h1,h2,hr,h3⟩:=hv;have H3:Hid (rs≠[]→∃b off,a=some ⟨b,off,none⟩∧_):=h3;have HA:=hY5 Bw hC B hn hr;clear h3 h1 h2 Bw hC B hn hr;go_enter Tryz.func81,Tryz.ntmps81
 go_wp2_with fail;go_loopw [9] (fun i wr=>∃(k:Nat) (nv:Value),k≤rs.length∧i=.int .i64 k∧Hid (Bh w g LH (addR D (rs.take k)) nv wr)) (fun i _=>rs.length - (RowKit.intOf i).toNat)
 case atStart=>exact⟨0,lv,Nat.zero_le _,rfl,HA.out.2.2.1⟩
 case round=>
  obtain⟨k,nv,hk,rfl,hB⟩:=hrel;by_cases hlt:k<rs.length
  ·obtain⟨b,off,rfl,h4,h5⟩:=H3.out (fun e=>by rw[e] at hlt;simp at hlt);have hbel:=hB.out.bel;have x0:wr.cell? ⟨b,off+k*2,none⟩=some (.int .i64 rs[k].1):=by rw[hbel.cell (p:=⟨b,off+k*2,none⟩) h4];exact(h5 k hlt).1
   have x1:wr.cell? ⟨b,off+k*2+1,none⟩=some (.int .i64 rs[k].2):=by rw[hbel.cell (p:=⟨b,off+k*2+1,none⟩) h4];exact(h5 k hlt).2
   have g1:(k:Int)<rs.length:=by omega
   have g2:(k:Int)<1000000:=by have:=HA.out.2.2.2.1;omega
   have h64:R64 rs[k]:=HA.out.2.2.2.2 _ (List.getElem_mem hlt);have hlen:=addR_len D (rs.take k);rw[List.length_take] at hlen;have hD1:addR D (rs.take (k+1))=if rs[k]∈addR D (rs.take k) then addR D (rs.take k) else addR D (rs.take k)++[rs[k]]:=by
    rw[List.take_succ_eq_append_getElem hlt,addR_snoc]
   obtain⟨r,hq⟩:=gNz (rs[k]:Pr);obtain⟨D',hD'⟩:∃D',addR D (rs.take k)=D':=⟨_,rfl⟩
   rw[hD'] at hB hD1 hlen;rw[hq] at x0 x1 h64 hD1;have HK:=hY2 hlt ((by have:=HA.out.2.2.2.1;omega):D'.length≤900000);have HD:Hid (addR D (rs.take (k+1))=_):=hD1;have bA:=bAl wr (.cells #[.int .i64 r.1,.int .i64 r.2] 45);have hB1:=hB.out.below bA;have N:=heap_alloc_new wr (.cells #[.int .i64 r.1,.int .i64 r.2] 45);have hlk:=hB1.m.look1 Tryz.underlying86 (zeroI _) h64;rw[lk_ones] at hlk;have c1:(wr.alloc (.cells #[.int .i64 r.1,.int .i64 r.2] 45)).cell? ⟨w.heap.size+3,0,none⟩=some (.map (some (w.heap.size+2))):=cLo hB1.s 0;have hne:w.heap.size+3<wr.heap.size:=by have:=hB.out.z;omega
   have HB1:=hY2 hB1 N;have Hk:Hid (k≤rs.length):=hk;clear h5 hk hlt hD1 hlen hbel hB hq bA hB1 N;by_cases hm:r∈D'
   ·rw[if_pos hm] at hlk HD;simp only[Option.getD_some] at hlk;have HM:Hid (r∈D'):=hm;clear hm;go_wp2;go_roundw
    case rel=>exact⟨k+1,nv,HK.out.1,by go_num,by rw[HD.out];exact HB1.out.1⟩
    case measure=>simp[RowKit.intOf];have:=HK.out;omega
   ·rw[if_neg hm] at hlk HD;simp only[Option.getD_none] at hlk;have hput:=HB1.out.1.m.put Tryz.underlying86 h64 (by simp;have:=HK.out;omega) (.int .i64 1);obtain⟨V,hrun,hM,ht⟩:=hput;have HV:=hY2 hM ht;have HM:Hid (r∉D'):=hm;clear hm hM ht;go_upto_region 5 with fail
    have kp:=Kp.turned HV.out.2;have z0:=HB1.out.1.z;have vb:=kp.heap HB1.out.1.b (by simp);have vl:=kp.heap HB1.out.1.l (by simp);have vs:=kp.heap HB1.out.1.s (by simp);have vN:=kp.heap HB1.out.2 (by simp;omega);have vbook:=HA.out.1.below ((HB1.out.1.bel).trans (kp.below (B:=w.heap.size) (by simp) HB1.out.1.bel.size));have vbel:Below w.heap.size w V:=(HB1.out.1.bel).trans (kp.below (B:=w.heap.size) (by simp) HB1.out.1.bel.size);have vrow:RowC (w.heap.size+4) nv (D'.map (entV LH)) V:=HB1.out.1.row.kept HV.out.2.grown (Or.inr (fun e=>by have:=(HB1.out.1.row.lt _ e).1;omega));have vz:w.heap.size+4≤V.heap.size:=Nat.le_trans z0 kp.size;have vM:MapL V (w.heap.size+2) ((D'++[r]).map fun r=>(r,(.int .i64 1:Value))):=by
     have:=HV.out.1;rw[putL_new (by rw[lk_ones,if_neg HM.out])] at this;simpa using this
    have c2:V.cell? ⟨w.heap.size+1,0,none⟩=some nv:=cLo vl 0;have c3:V.cell? ⟨w.heap.size,0,none⟩=some (.pointer (some ⟨g,0,none⟩)):=cLo vb 0;have c4:V.cell? ⟨g,0,none⟩=some (.map (some h)):=cLo vbook.box 0;obtain⟨c5,c6,-⟩:=cLs vN;have s1:=lt_of_heap vl;have s2:=lt_of_heap vb;have s3:=lt_of_heap vbook.box;have s4:=lt_of_heap vN;have hlk2:=MapL.look1 (w:=V.drew) ⟨vbook.has.own,vbook.has.nd,vbook.has.r64⟩ Tryz.underlying75 (zeroC _) h64;have hcv:=cv_look HA.out.2.1 r;have hent:entV LH r=(lk LH r).getD zC:=rfl;rw[←hent] at hlk2 hcv;have bD:Below V.heap.size V (V.drew.alloc (.cells (vcells (entV LH r)).toArray 33)):=(drew_of (Below.refl _ V)).alloc lRf _;have x5:(V.drew.alloc (.cells (vcells (entV LH r)).toArray 33)).heap[V.heap.size]?=some (.cells (vcells (entV LH r)).toArray 33):=heap_alloc_new V.drew _;obtain⟨nv',U,happ,hrow',hgr⟩:=run_appC 23 (V.drew.alloc (.cells (vcells (entV LH r)).toArray 33)) (w.heap.size+4) (Nat.le_trans vz bD.size) nv (entV LH r) (D'.map (entV LH)) hcv (own_below vrow bD lRf) (by simp;have:=HK.out;omega) V.heap.size x5;obtain⟨na,nn,nc,rfl⟩:∃a n c,nv'=.slice a n c:=by
     rcases hrow'.2 with⟨e,_⟩ | ⟨_,_,_,e,_⟩
     ·exact⟨_,_,_,e⟩
     ·exact⟨_,_,_,e⟩
    have low:∀k,k<w.heap.size+4→some k≠nv.ownBlock:=fun k hk e=>by
     have:=(vrow.lt k e.symm).1;omega
    have ul:=grown_heap (heap_below vl bD lRf) hgr (low _ (by omega));have c7:U.cell? ⟨w.heap.size+1,0,none⟩=some nv:=cLo ul 0;have uf:=fRz ul;have s5:=lt_of_heap ul;have HX:Hid (Bh w g LH (D'++[r]) (.slice na nn nc) (U.setCell ⟨w.heap.size+1,0,none⟩ (.slice na nn nc))):=Bh.app (heap_below vb bD lRf) (heap_below vl bD lRf) (vM.below bD) (heap_below vs bD lRf) (own_below vrow bD lRf) (vbel.trans (bD.mono vbel.size)) (Nat.le_trans vz bD.size) hgr hrow';obtain⟨ea,es,et,ed,en,ec,eo,em,ee,hev⟩:=hcv;rw[hev] at hlk2 happ hgr;simp only[vcells] at happ hgr;clear kp z0 vb vl vs vN vbook vbel vrow vz vM hent bD x5 hrow' low ul hgr hlk hrun c1 x0 x1;go_region_law (refine step_append_known rfl (.tmp 19) (.tmp 26) 23 rfl nv (.slice (some ⟨V.heap.size,0,none⟩) 1 1) (.slice na nn nc) U (by simp[Act.eval]) (by simp[Act.eval]) happ ?_);all_goals
     have hX:=HX.out;clear c2 c3 c4 c5 c6 c7 uf hlk2 happ s1 s2 s3 s4 s5 hev;generalize U.setCell ⟨w.heap.size+1,0,none⟩ (.slice na nn nc)=U2 at *;have HY:Hid _:=hX;clear hX;go_wp2;go_roundw
     case rel=>exact⟨k+1,_,HK.out.1,by go_num,by rw[HD.out];exact HY.out⟩
     case measure=>simp[RowKit.intOf];have:=HK.out;omega
  ·have hke:k=rs.length:=by omega
   subst hke;rw[List.take_length] at hB;clear hlt hk;go_wp2;go_end0;exact⟨rfl,nv,hB.out⟩
theorem behindL_any (w:World) (g h q:Nat) (EH EW:List CE) (v:Value) (hs:List Pr) (B:Bk w g h q EH EW) (hv:IsPairs w v hs) (hk:∀r∈hs,r∈EH.map (·.1.ref)) (hl:hs.length≤800000):
 Calls Tryz.prog 46 #[.pointer (some ⟨g,0,none⟩),v] w fun e w'=>∃lv,e=.returned lv∧BehP w EH hs lv w':=by
 have hmm:=@run_makeMap Tryz.prog;obtain⟨va,vc,rfl,_⟩:=id hv;obtain⟨W0,hW0⟩:∃W0,W0=(((w.alloc (.cells #[.pointer (some ⟨g,0,none⟩)] 25)).alloc (.cells #[.slice none 0 0] 23)).alloc (.map #[] 0)).alloc (.cells #[.map (some (w.heap.size+2))] 86):=⟨_,rfl⟩
 have B0:Bh w g (ents EH) [] (.slice none 0 0) W0:=by
  have M2:=MapL.made ((w.alloc (.cells #[.pointer (some ⟨g,0,none⟩)] 25)).alloc (.cells #[.slice none 0 0] 23));have e2:((w.alloc (.cells #[.pointer (some ⟨g,0,none⟩)] 25)).alloc (.cells #[.slice none 0 0] 23)).heap.size=w.heap.size+2:=by simp
  rw[e2] at M2;have n1:=heap_alloc_new (w.alloc (.cells #[.pointer (some ⟨g,0,none⟩)] 25)) (.cells #[.slice none 0 0] 23);rw[show(w.alloc (.cells #[.pointer (some ⟨g,0,none⟩)] 25)).heap.size=w.heap.size+1 from by simp] at n1;have n3:=heap_alloc_new (((w.alloc (.cells #[.pointer (some ⟨g,0,none⟩)] 25)).alloc (.cells #[.slice none 0 0] 23)).alloc (.map #[] 0)) (.cells #[.map (some (w.heap.size+2))] 86);rw[show(((w.alloc (.cells #[.pointer (some ⟨g,0,none⟩)] 25)).alloc (.cells #[.slice none 0 0] 23)).alloc (.map #[] 0)).heap.size=w.heap.size+3 from by simp] at n3;rw[hW0];refine⟨heap_alloc_old (heap_alloc_old (heap_alloc_old (heap_alloc_new w _) _) _) _,heap_alloc_old (heap_alloc_old n1 _) _,M2.below (bAl _ _),n3,World.ownsRow_nil _ _ _ _,(((bAl _ _).alloc (by simp) _).alloc (by simp;omega) _).alloc (by simp;omega) _,by simp⟩
 have E1:=addL_any w g h q (ents EH) (ents EW) [] (.slice none 0 0) (.slice va hs.length vc) hs W0 B.book B.cvH hv B0 (by simp;omega);have eg:∀args w,(callFunc 81 args).run Tryz.prog w=.ok (.enter 81 args) w:=enters_of Tryz.func81 (by kernel_rfl) rfl;have HA:=hY2 B hk;rw[hW0] at E1;clear B0 hW0 B hv hk;go_enter Tryz.func46,Tryz.ntmps46
 go_wp2_with fail;go_fit E1;rintro e w1 ⟨rfl,lv,hB1⟩;have HB1:Hid _:=hB1;clear E1 hB1;go_wp2_with fail;go_loopw [8] (fun i wr=>∃(k:Nat) (D:List Pr) (lv:Value),k≤D.length∧i=.int .i64 k∧Hid (D=behS (depE EH) hs k∧(∀r∈D,r∈EH.map (·.1.ref))∧Bh w g (ents EH) D lv wr)) (fun i _=>200 - (RowKit.intOf i).toNat)
 case atStart=>exact⟨0,_,lv,Nat.zero_le _,rfl,rfl,fun r hr=>HA.out.2 r (by have:=(addR_mem [] hs r).1 hr;simpa using this),HB1.out⟩
 case round=>
  clear HB1 lv;obtain⟨k,D,lv,hkD,rfl,hB⟩:=hrel;have hnd:D.Nodup:=by have:=hB.out.2.2.m.nd;simpa [Function.comp_def] using this
  have hlen:D.length≤120:=by
   have h1:=nodup_len hnd hB.out.2.1;have h2:=HA.out.1.many;rw[List.length_map] at h1;omega
  have c0:wr.cell? ⟨w.heap.size+1,0,none⟩=some lv:=cLo hB.out.2.2.l 0;have s0:=lt_of_heap hB.out.2.2.l;have hcvs:∀u∈D.map (entV (ents EH)),CV u:=fun u hu=>by
   obtain⟨r,_,rfl⟩:=List.mem_map.1 hu;exact cv_look HA.out.1.cvH r
  by_cases hlt:k<D.length
  ·have hrow:=hB.out.2.2.row;rcases hrow.2 with⟨_,h0⟩ | ⟨gb,cap,cur,rfl,hg,hcur,hcap,hm,hz,ht⟩
   ·simp at h0;rw[h0] at hlt;simp at hlt
   rw[List.length_map] at hcap c0;have hrk:D[k]∈EH.map (·.1.ref):=hB.out.2.1 _ (List.getElem_mem hlt);obtain⟨p,hp,hpr,hpv,hpd⟩:=ent_of hrk;obtain⟨hchg,hchk⟩:=HA.out.1.chgs p (List.mem_append_left _ hp);obtain⟨ud,uo,lo,h1,h2,h3,_⟩:=hchg;obtain⟨da,dc,rfl,_⟩:=id h3;have hcell:wr.cell? ⟨gb,k*5+3,none⟩=some (.slice da p.1.deps.length dc):=by
    have:=hrow.cellAt (k*5+3) (by rw[List.length_map];omega);rw[flat_at hcvs k (by simpa using hlt) 3 (by omega)] at this;rw[this];simp only[List.getElem_map];rw[hpv,h1];rfl
   have E:=addL_any w g h q (ents EH) (ents EW) D _ (.slice da p.1.deps.length dc) p.1.deps wr HA.out.1.book HA.out.1.cvH h3 hB.out.2.2 (by have:=(chk_few hchk).1;omega);have HN:Hid (addR D p.1.deps=behS (depE EH) hs (k+1)∧∀r∈addR D p.1.deps,r∈EH.map (·.1.ref)):=by
    refine⟨?_,fun r hr=>?_⟩
    ·show _=addR (behS (depE EH) hs k) (depE EH ((behS (depE EH) hs k).getD k (0,0)));rw[←hB.out.1];simp[List.getD,hlt,hpd]
    ·rcases(addR_mem _ _ r).1 hr with e | e
     ·exact hB.out.2.1 r e
     ·exact clo_all HA.out.1.clo p hp r e
   have HK:=hY2 hlt hlen;have g1:(k:Int)<D.length:=by omega
   have g2:(k:Int)<120:=by omega
   have HM:Hid (∀r,r∈D→r∈addR D p.1.deps):=fun r hr=>(addR_mem _ _ r).2 (Or.inl hr);have HND:Hid (D.Nodup):=hnd;have s1:=lt_of_heap hcur;clear hB hkD hnd hlen hcvs hlt hrow hrk hp hpr hpv hpd hchk h1 h2 h3 hg hcur hcap hm hz ht;go_wp2_with fail;go_fit E;rintro e w2 ⟨rfl,lv2,hB2⟩;have HB2:Hid _:=hB2;have HL:Hid (k+1≤(addR D p.1.deps).length):=by
    have:=nodup_len HND.out HM.out;have:=HK.out;show _≤_;omega
   clear E hB2 c0 hcell;go_wp2;go_roundw
   case rel=>exact⟨k+1,_,lv2,HL.out,by go_num,HN.out.1,HN.out.2,HB2.out⟩
   case measure=>simp[RowKit.intOf];have:=HK.out;omega
  ·have hke:k=D.length:=by omega
   obtain⟨la,ln,lc,rfl⟩:∃a n c,lv=.slice a n c:=by
    rcases hB.out.2.2.row.2 with⟨e,_⟩ | ⟨_,_,_,e,_⟩
    ·exact⟨_,_,_,e⟩
    ·exact⟨_,_,_,e⟩
   have hln:ln=D.length:=by
    rcases hB.out.2.2.row.2 with⟨e,h0⟩ | ⟨_,_,_,e,_⟩
    ·simp at h0;have:=(Value.slice.inj e).2.1;rw[h0];simpa using this
    ·have:=(Value.slice.inj e).2.1;simpa using this
   subst hln;have HND:Hid (D.Nodup):=hnd;have HK:Hid (k=D.length):=hke;have g1:¬(k:Int)<D.length:=by omega
   clear hlt hcvs hnd hlen hkD hke;go_wp2;go_ret;exact⟨_,rfl,D,k,own_mono hB.out.2.2.row (Nat.le_add_right _ _),hB.out.1,HK.out,HND.out,hB.out.2.1,hB.out.2.2.bel⟩
end Go.Proofs.YtamhlgflbacjgaaGreat
namespace Go.Proofs.YtamhlgflbacjgaaGreat
open Go.RowKit Go.Sort
theorem own_typeM {w:World} {B e s n b:Nat} {v:Value} {xs:List Value} (h:w.ownsRow B e s v n xs) (hb:v.ownBlock=some b):∃cur,w.heap[b]?=some (.cells cur e):=by
 rcases h.2 with⟨rfl,_⟩ | ⟨g,cap,cur,rfl,_,hg,_⟩
 ·simp[Value.ownBlock] at hb
 ·simp[Value.ownBlock] at hb;subst hb;exact⟨cur,hg⟩
theorem slice_rowM {w:World} {B e s n:Nat} {v:Value} {xs:List Value} (h:w.ownsRow B e s v n xs):∃a c,v=.slice a n c:=by
 rcases h.2 with⟨rfl,e⟩ | ⟨g,cap,cur,rfl,_⟩
 ·exact⟨_,_,by rw[e]⟩
 ·exact⟨_,_,rfl⟩
structure MissP (L W:List Chg) (hs O:List Pr):Prop where
 rise:Rise O
 mem:∀r,r∈O↔(r∈hs∨∃x∈W,r∈x.deps)∧r∉refsOf L∧r∉refsOf W
theorem rise_ext {l m:List Pr} (hl:Rise l) (hm:Rise m) (h:∀x,x∈l↔x∈m):l=m:=by
 refine rise_unique ?_ hl hm;exact(List.perm_ext_iff_of_nodup (rise_nd hl) (rise_nd hm)).2 h
theorem MissP.uniq {L W V:List Chg} {hs O Q:List Pr} (hp:W.Perm V) (h:MissP L W hs O) (g:MissP L V hs Q):O=Q:=by
 refine rise_ext h.rise g.rise fun x=>?_;rw[h.mem,g.mem];have e1:(∃y∈W,x∈y.deps)↔∃y∈V,x∈y.deps:=⟨fun⟨y,hy,hx⟩=>⟨y,hp.mem_iff.1 hy,hx⟩,fun⟨y,hy,hx⟩=>⟨y,hp.mem_iff.2 hy,hx⟩⟩
 have e2:x∈refsOf W↔x∈refsOf V:=(hp.map Chg.ref).mem_iff;rw[e1,e2]
end Go.Proofs.YtamhlgflbacjgaaGreat
namespace Go.Proofs.YtamhlgflbacjgaaGreat
open Go.RowKit Go.Maps Go.Sort Go.Shelf Go.Lib
def RiseW (l:List Pr):Prop:=l.Pairwise fun a b=>¬ltR b a
theorem RiseW.rise {l:List Pr} (h:RiseW l) (hn:l.Nodup):Rise l:=by
 have:l.Pairwise fun a b=>¬ltR b a∧a≠b:=List.pairwise_and_iff.2 ⟨h,hn⟩;exact this.imp fun⟨h1,h2⟩=>ltR_total (fun e=>h2 e.symm) h1
theorem sortD_any (g cap base:Nat) (ss:List Pr) (w:World) (hR:RowPr 45 base (.slice (some ⟨g,0,none⟩) ss.length cap) ss w) (hl:ss.length≤1000000):
 Calls Tryz.prog 47 #[.slice (some ⟨g,0,none⟩) ss.length cap,.func (.func 48) #[] #[]] w fun e w'=>e=.returned (.tuple #[])∧∃ts:List Pr,ts.Perm ss∧RiseW ts∧RowPr 45 base (.slice (some ⟨g,0,none⟩) ss.length cap) ts w'∧w.grownBy w' (some g):=by
 have eg:∀args w,(callFunc 48 args).run Tryz.prog w=.ok (.enter 48 args) w:=enters_of Tryz.func48 (by kernel_rfl) rfl;rcases hR.2 with⟨h0,_⟩ | ⟨g',cap',cur,e1,hbase,hb,h1,h2,h3,h4⟩
 ·cases h0
 obtain⟨e2,_,e3⟩:=Value.slice.inj e1;obtain rfl:g=g':=by have:=Option.some.inj e2;simpa using this
 subst e3;have hH:=holdsR_of_block (ss:=ss) hb h4;have hcon:=AnyQ.slices_SortFunc Tryz.sortA 2 Tryz.isAgg45 Tryz.sizeOf45 encR (fun _=>rfl) (fun x v hv=>by simp[encR] at hv;rcases hv with rfl | rfl <;> rfl) cR swoR 48 #[] g 0 cap ss.toArray w eg (fun _ _ _ _ x y=>compareR_any x y _) hH (lt_of_heap hb) (by simp;omega);rw[show ss.toArray.size=ss.length from by simp] at hcon;refine Calls.mono hcon ?_;rintro e w' ⟨rfl,d',n,os,hp,hs,rfl⟩;obtain⟨p1,_,p3⟩:=hp;have p1':d'.size=ss.length:=by simpa using p1
 have e4:d'.extract 0 ss.length=d':=by rw[←p1'];exact Array.extract_size
 have e5:ss.toArray.extract 0 ss.length=ss.toArray:=by
  simp
 rw[e4,e5] at p3;have p4:d'.toList.Perm ss:=by simpa using p3
 refine⟨rfl,d'.toList,p4,?_,?_,?_⟩
 ·refine List.pairwise_iff_getElem.2 fun i j hi hj hij=>?_;have q1:i<d'.size:=by simpa using hi
  have q2:j<d'.size:=by simpa using hj
  have h5:=hs i j (Nat.zero_le _) hij (by omega);rw[getElem!_pos d' j q2,getElem!_pos d' i q1] at h5;have h6:¬ltR d'[j] d'[i]:=fun e=>by rw[(ltOf_cR _ _).2 e] at h5;cases h5
  simp only[Array.getElem_toList];exact h6
 ·have:=rowPr_sorted (n:=n) (os:=os) (ts:=d'.toList) (ss:=ss) (by simpa using p1') hbase hb h1 h2 h3;simpa using this
 ·unfold sortWorldK putRowK;exact grownBy_sortedV _
theorem sortW_any (v:Value) (base:Nat) (ss:List Pr) (w:World) (hR:RowPr 45 base v ss w) (hl:ss.length≤1000000):
 Calls Tryz.prog 47 #[v,.func (.func 48) #[] #[]] w fun e w'=>e=.returned (.tuple #[])∧∃ts:List Pr,ts.Perm ss∧RiseW ts∧RowPr 45 base v ts w'∧w.grownBy w' v.ownBlock:=by
 rcases hR.2 with⟨rfl,h0⟩ | ⟨g1,cap,cur,rfl,hbase,hb1,h1,h2,h3,h4⟩
 ·have E:=AnyF.slices_SortFunc_none Tryz.sortA none 0 (.func (.func 48) #[] #[]) w;change Calls Tryz.prog 47 _ _ _ at E;have hss:ss=[]:=List.length_eq_zero_iff.1 h0;subst hss;refine E.mono ?_;rintro e w2 ⟨rfl,rfl⟩;exact⟨rfl,[],List.Perm.refl _,List.Pairwise.nil,hR,⟨rfl,rfl,rfl,lRf,fun _ _ _=>rfl⟩⟩
 ·refine(sortD_any g1 cap base ss w hR hl).mono ?_;rintro e w2 ⟨rfl,ts,q1,q2,q3,q4⟩;exact⟨rfl,ts,q1,q2,q3,q4⟩
theorem row_nat {w:World} {N n c:Nat} {a:Option Addr} {us:List Value} (h:RowC N (.slice a n c) us w) (hn:us.length=n):w.ownsRow N 33 5 (.slice a n c) n (us.flatMap vcells):=by subst hn;exact h
theorem IsBeh.perm {L:List Chg} {hs D E:List Pr} (h:IsBeh L hs D) (hm:∀x,x∈E↔x∈D):IsBeh L hs E:=
 ⟨⟨fun x hx hr=>(hm x).2 (h.cl.1 x hx hr),fun c hc hcD d hd hr=>(hm d).2 (h.cl.2 c hc ((hm _).1 hcD) d hd hr)⟩,fun D' hD' x hx=>h.least D' hD' x ((hm x).1 hx)⟩
def DBehR (EH:List CE) (hs:List Pr) (e:Ending) (w':World):Prop:=
 (¬(∀r∈hs,r∈refsOf (chgsOf EH))∧e=.returned (.tuple #[.slice none 0 0,errV 6]))∨((∀r∈hs,r∈refsOf (chgsOf EH))∧∃u O,e=.returned (.tuple #[u,.nilIface])∧IsPairs w' u O∧Wh u∧Rise O∧IsBeh (chgsOf EH) hs O)
theorem dBehind_any (w:World) (g h q:Nat) (EH EW:List CE) (v:Value) (hs:List Pr) (B:Bk w g h q EH EW) (hv:IsPairs w v hs) (hl:hs.length≤800000):
 Calls Tryz.prog 13 #[.pointer (some ⟨g,0,none⟩),v] w fun e w'=>DBehR EH hs e w'∧Below w.heap.size w w':=by
 obtain⟨va,vn,vc,rfl⟩:∃a n c,v=.slice a n c:=by obtain⟨a,c,e,_⟩:=hv;exact⟨_,_,_,e⟩
 have E1:=hasAll_any g h q (ents EH) (ents EW) _ hs w B.book hv B.cvH;obtain⟨hb,hhb⟩:=gNz (hasL (ents EH) hs:Bool);rw[hhb] at E1;have HRD:Hid ((∀r∈hs,r∈refsOf (chgsOf EH))↔hb=true):=by
  show _↔_;rw[←hhb];unfold hasL;rw[refs_chgs,List.all_eq_true];exact⟨fun h d hd=>mem_keys.1 (h d hd),fun h d hd=>mem_keys.2 (h d hd)⟩
 have HA:=hY3 B hv hl;clear hhb B hv hl;go_enter Tryz.func13,Tryz.ntmps13
 go_wp2_with fail;go_fit E1;rintro e w1 ⟨rfl,b1⟩;clear E1;have H1:Hid (Below w.heap.size w w1):=b1;clear b1;cases hb with
 | false=>
  have HE:Hid (¬(∀r∈hs,r∈refsOf (chgsOf EH))):=fun h=>by cases HRD.out.1 h
  clear HRD;go_wp2;go_returns;exact⟨Or.inl ⟨HE.out,rfl⟩,H1.out⟩
 | true=>
  have HIN:Hid (∀r∈hs,r∈refsOf (chgsOf EH)):=HRD.out.2 rfl;clear HRD;have B1:=HA.out.1.below H1.out;have E2:=behindL_any w1 g h q EH EW _ hs B1 (HA.out.2.1.below H1.out) (fun r hr=>by rw[←refs_chgs];exact HIN.out r hr) HA.out.2.2;clear B1;go_wp2_with fail;go_fit E2;rintro e w2 ⟨lv,rfl,hP⟩;obtain⟨D,kk,hrow,hD,hkk,hnd,hin,b2⟩:=hP;clear E2;have HBH:Hid (IsBeh (chgsOf EH) hs D):=by
   have hok:∀p∈EH,chk p.1=0:=fun p hp=>(HA.out.1.chgs p (List.mem_append_left _ hp)).2;exact behS_isBeh HA.out.1.clo hok (nodup_ents HA.out.1).1 hD hkk (fun x hx=>by rw[←refs_chgs];exact HIN.out x hx)
  have HDL:Hid (D.length≤120∧D.Nodup):=⟨by
   have h1:=nodup_len hnd (fun x hx=>hin x hx);have h2:=HA.out.1.many;rw[List.length_map] at h1;omega,hnd⟩
  obtain⟨la,lc,rfl⟩:=slice_rowM hrow;obtain⟨ln,hln⟩:=gNz (D.length);have hlen:(D.map (entV (ents EH))).length=ln:=by rw[List.length_map];exact hln
  rw[hlen] at hrow ⊢;have HLN:Hid (D.length=ln):=hln;have H2:Hid (Below w.heap.size w w2):=H1.out.trans (b2.mono H1.out.size)
  -- the changes that were gathered
  have HEL:Hid (∀i (hi:i<D.length),∃(b:Nat) (xa xs xt:Int) (xda:Option Addr) (xdn xdc:Nat) (xoa:Option Addr) (xon xoc:Nat),la=some ⟨b,0,none⟩∧D[i]=(xa,xs)∧R64 (xa,xs)∧∀W,Below w2.heap.size w2 W→W.cell? ⟨b,i*5,none⟩=some (.int .i64 xa)∧W.cell? ⟨b,i*5+1,none⟩=some (.int .i64 xs)∧W.cell? ⟨b,i*5+2,none⟩=some (.int .i64 xt)∧W.cell? ⟨b,i*5+3,none⟩=some (.slice xda xdn xdc)∧W.cell? ⟨b,i*5+4,none⟩=some (.slice xoa xon xoc)):=fun i hi=>by
   obtain⟨h1,h2,h3⟩:=entE_of (E:=EH) (hin D[i] (List.getElem_mem hi));obtain⟨hw,_⟩:=HA.out.1.chgs _ (List.mem_append_left EW h1);obtain⟨ud,uo,l,e1,⟨i1,i2,_⟩,⟨da,dc,rfl,_⟩,⟨oa,oc,rfl,_⟩,_⟩:=id hw;have hcv:∀u∈D.map (entV (ents EH)),CV u:=fun u hu=>by
    obtain⟨r,hr,rfl⟩:=List.mem_map.1 hu;obtain⟨k1,k2,k3⟩:=entE_of (E:=EH) (hin r hr);rw[k3];exact(HA.out.1.chgs _ (List.mem_append_left EW k1)).1.cv
   rcases hrow.2 with⟨e,e2⟩ | ⟨b,cap,cur,e,_,hh,_⟩
   ·rw[List.length_map] at e2;omega
   ·have hlb:la=some ⟨b,0,none⟩:=(Value.slice.inj e).1;have hc:∀j,j<5→w2.cell? ⟨b,i*5+j,none⟩=(vcells (entV (ents EH) D[i]))[j]?:=fun j hj=>by
     have hr2:=row_nat hrow hlen;rw[hlb] at hr2;rw[hr2.cellAt (i*5+j) (by omega),flat_at hcv i (by rw[List.length_map];exact hi) j hj,List.getElem_map]
    rw[h3,e1] at hc;refine⟨b,_,_,(entE EH D[i]).1.start,da,(entE EH D[i]).1.deps.length,dc,oa,l.length,oc,hlb,h2.symm,⟨i1,i2⟩,fun W hW=>?_⟩;have hbz:=lt_of_heap hh;exact⟨by rw[hW.cell (p:=⟨b,i*5,none⟩) hbz];exact hc 0 (by omega),by rw[hW.cell (p:=⟨b,i*5+1,none⟩) hbz];exact hc 1 (by omega),by rw[hW.cell (p:=⟨b,i*5+2,none⟩) hbz];exact hc 2 (by omega),by rw[hW.cell (p:=⟨b,i*5+3,none⟩) hbz];exact hc 3 (by omega),by rw[hW.cell (p:=⟨b,i*5+4,none⟩) hbz];exact hc 4 (by omega)⟩
  clear hrow hD hkk hnd hin b2 hln hlen;go_wp2_with fail;go_loopw [6,18] (fun xo xi wr=>∃(i:Nat) (vo:Value),i≤D.length∧xi=.int .i64 i∧vo=xo∧Hid (RowPr 45 w2.heap.size vo (D.take i) wr∧Below w2.heap.size w2 wr)) (fun _ xi _=>D.length - (RowKit.intOf xi).toNat)
  case atStart=>exact⟨0,_,Nat.zero_le _,rfl,rfl,World.ownsRow_nil _ _ _ _,Below.refl _ _⟩
  case round=>
   obtain⟨i,vo,hi,rfl,rfl,hR⟩:=hrel;by_cases hlt:i<D.length
   ·obtain⟨b,xa,xs,xt,xda,xdn,xdc,xoa,xon,xoc,hla,hDi,_,hcl⟩:=HEL.out i hlt;obtain⟨x0,x1,x2,x3,x4⟩:=hcl wr hR.out.2;have HM:Hid (∃h:i<D.length,D[i]=(xa,xs)):=⟨hlt,hDi⟩
    have HR:Hid (RowPr 45 w2.heap.size vo (D.take i) wr∧Below w2.heap.size w2 wr):=hR;have g1:(i:Int)<ln:=by have:=HLN.out;omega
    have g3:(0:Int)≤i:=by omega
    clear hcl hlt hi hR hDi;subst hla;go_upto_region 7 with fail
    have bA:Below wr.heap.size wr (wr.alloc (.cells #[.int .i64 xa,.int .i64 xs,.int .i64 xt,.slice xda xdn xdc,.slice xoa xon xoc] 33)):=bAl _ _;have HN:=hY2 (heap_alloc_new wr _:(wr.alloc (.cells #[.int .i64 xa,.int .i64 xs,.int .i64 xt,.slice xda xdn xdc,.slice xoa xon xoc] 33)).heap[wr.heap.size]?=some (.cells #[.int .i64 xa,.int .i64 xs,.int .i64 xt,.slice xda xdn xdc,.slice xoa xon xoc] 33)) bA;clear bA x0 x1 x2 x3 x4;generalize wr.alloc (.cells #[.int .i64 xa,.int .i64 xs,.int .i64 xt,.slice xda xdn xdc,.slice xoa xon xoc] 33)=wa at *;obtain⟨y0,y1,y2,y3,y4,-⟩:=cLs HN.out.1;have E3:=refOf_any xa xs xt xda xdn xdc xoa xon xoc wa;unfold refV at E3;go_wp2_with fail;go_fit E3;rintro e w4 ⟨rfl,b4⟩;have HR4:=hY2 (own_below (own_below HR.out.1 HN.out.2 lRf) b4 lRf) ((HR.out.2.trans (HN.out.2.mono HR.out.2.size)).trans (b4.mono (Nat.le_trans HR.out.2.size HN.out.2.size)));clear E3 b4 HN HR y0 y1 y2 y3 y4;have b9:Below w4.heap.size w4 (w4.alloc (.cells #[.int .i64 xa,.int .i64 xs] 45)):=bAl _ _;obtain⟨v9,U9,happ,row9,gr9⟩:=run_appR1 30 (w4.alloc (.cells #[.int .i64 xa,.int .i64 xs] 45)) w2.heap.size (Nat.le_trans HR4.out.2.size b9.size) vo (xa,xs) (D.take i) (own_below HR4.out.1 b9 lRf) (by have:=HDL.out.1;rw[List.length_take];omega) w4.heap.size (heap_alloc_new w4 _);have HNX:Hid (RowPr 45 w2.heap.size v9 (D.take (i+1)) U9∧Below w2.heap.size w2 U9):=by
     obtain⟨h,e⟩:=HM.out;rw[take_snocE D i h,e];exact⟨row9,(HR4.out.2.trans (b9.mono HR4.out.2.size)).grown gr9 (Nat.le_trans HR4.out.2.size b9.size) (fun j e=>(HR4.out.1.lt j e).1)⟩
    clear b9 row9 gr9;go_upto_region 8 with(first | (at_builtin;refine wp_append rfl _ _ 30 rfl _ _ _ _ rfl rfl happ ?_))
    clear happ;have gm:(i:Int)<1000:=by obtain⟨h,_⟩:=HM.out;have:=HDL.out.1;omega
    go_wp2;go_roundw
    case rel=>obtain⟨h,_⟩:=HM.out;exact⟨i+1,v9,h,by go_num,rfl,HNX.out⟩
    case measure=>obtain⟨h,_⟩:=HM.out;simp[RowKit.intOf];omega
   ·have hme:¬(i:Int)<ln:=by have:=HLN.out;omega
    have HR:Hid (RowPr 45 w2.heap.size vo D wr∧Below w2.heap.size w2 wr):=by
     have:=hR.out;rw[List.take_of_length_le (by omega)] at this;exact this
    have h64:∀x∈D,R64 x:=fun x hx=>by
     obtain⟨j,hj,rfl⟩:=List.getElem_of_mem hx;obtain⟨b,xa,xs,xt,xda,xdn,xdc,xoa,xon,xoc,_,hDi,h9,_⟩:=HEL.out j hj;rw[hDi];exact h9
    have H64:Hid (∀x∈D,R64 x):=h64;have E5:=sortW_any vo w2.heap.size D wr HR.out.1 (by have:=HDL.out.1;omega);clear hlt hi hR h64;go_wp2_with fail;go_fit E5;rintro e w5 ⟨rfl,ts,q1,q2,q3,q4⟩;have HE:Hid (IsPairs w5 vo ts∧Wh vo∧Rise ts∧IsBeh (chgsOf EH) hs ts∧Below w.heap.size w w5):=by
     have hnd:ts.Nodup:=q1.nodup_iff.2 HDL.out.2;refine⟨RowPr.pairs q3 (by have:=q1.length_eq;have:=HDL.out.1;omega) (fun x hx=>H64.out x (q1.mem_iff.1 hx)),Wh.of_own q3,q2.rise hnd,HBH.out.perm (fun x=>q1.mem_iff),?_⟩;have h9:Below w2.heap.size w2 w5:=HR.out.2.grown q4 HR.out.2.size (fun j e=>(HR.out.1.lt j e).1);exact H2.out.trans (h9.mono H2.out.size)
    clear E5 q1 q2 q3 q4 hme;go_wp2;go_returns;exact⟨Or.inr ⟨HIN.out,_,_,rfl,HE.out.1,HE.out.2.1,HE.out.2.2.1,HE.out.2.2.2.1⟩,HE.out.2.2.2.2⟩
theorem wp_clear {w:World} {ops:Array Oper} {rest:List Oper} {o:Oper} {a:Act} {Q:Exit→Act→World→Prop} (hgd:o.guard=none) (s:Operand) (T:TypeId)
 (ho:o.op=.call {callee:=.builtin .clear,args:=#[s],argTypes:=#[T]}) (v r:Value) (w':World) (hs:a.eval s=v)
 (hrun:(Builtin.clear_ #[T] o.type #[v]).run Tryz.prog w=.ok r w') (h:wpList Tryz.prog ops Q rest (a.put o.dst r) w'):wpList Tryz.prog ops Q (o::rest) a w:=by
 refine wpList_plain hgd fun K hK=>?_;unfold Oper.wp;simp[execOp,ho,resolve,invoke,builtin,hs,hrun,Result.andThen];exact hK _ _ h
end Go.Proofs.YtamhlgflbacjgaaGreat
namespace Go.Proofs.YtamhlgflbacjgaaGreat
open Go.RowKit Go.Maps
def nextB (EH:List CE) (D:List Pr) (r:Pr):Bool:= !((depE EH r).any fun d=> !decide (d∈D))
structure AllIn (w:World) (g h q x t m f:Nat) (EH EW:List CE) (D:List Pr):Prop where
 bk:Bk w g h q EH EW
 bx:w.heap[x]?=some (.cells #[.pointer (some ⟨g,0,none⟩)] 25)
 tb:w.heap[t]?=some (.cells #[.map (some m)] 86)
 mp:MapL w m (D.map fun r=>(r,(.int .i64 1:Value)))
 fb:w.heap[f]?=some (.cells #[.func (Fn.func 37) #[] #[.pointer (some ⟨t,0,none⟩)]] 87)
theorem AllIn.below {w w':World} {g h q x t m f:Nat} {EH EW:List CE} {D:List Pr} (A:AllIn w g h q x t m f EH EW D) (b:Below w.heap.size w w'):AllIn w' g h q x t m f EH EW D:=
 ⟨A.bk.below b,heap_below A.bx b lRf,heap_below A.tb b lRf,A.mp.below b,heap_below A.fb b lRf⟩
theorem idxP_true {p:Pr→Bool} {l:List Pr} {k:Nat} (h:idxP p l=k):∃hk:k<l.length,p l[k]=true:=by
 induction l generalizing k with
 | nil=>simp[idxP] at h
 | cons x l ih=>
  simp only[idxP] at h;split at h
  ·rename_i hx;have:k=0:=by omega
   subst this;exact⟨by simp,by simpa using hx⟩
  ·split at h
   ·omega
   ·cases k with
    | zero=>have:=idxP_range p l;omega
    | succ k=>
     obtain⟨hk,hp⟩:=ih (k:=k) (by omega);exact⟨by simpa using hk,by simpa using hp⟩
theorem nextB_iff {EH:List CE} {D:List Pr} {r:Pr}:nextB EH D r=true↔∀d∈depE EH r,d∈D:=by
 unfold nextB;rw[Bool.not_eq_true',List.any_eq_false];constructor
 ·intro h d hd;have:=h d hd;simpa using this
 ·intro h d hd;simpa using h d hd
theorem perm_erase (l:List Pr) (i:Nat) (hi:i<l.length):(l[i]::l.eraseIdx i).Perm l:=by
 induction l generalizing i with
 | nil=>simp at hi
 | cons x l ih=>
  cases i with
  | zero=>simp
  | succ i=>
   simp only[List.getElem_cons_succ,List.eraseIdx_cons_succ];exact(List.Perm.swap x _ _).trans ((ih i (by simpa using hi)).cons x)
def ordStep (EH:List CE) (s:List Pr×List Pr):List Pr×List Pr:=(s.1++[s.2.getD (idxP (nextB EH s.1) s.2).toNat (0,0)],s.2.eraseIdx (idxP (nextB EH s.1) s.2).toNat)
def ordN (EH:List CE) (ts:List Pr):Nat→List Pr×List Pr
 | 0=>([],ts)
 | k+1=>ordStep EH (ordN EH ts k)
structure OrdOk (EH:List CE) (D rest:List Pr):Prop where
 perm:(D++rest).Perm (EH.map (·.1.ref))
 dep:∀pre r post,D=pre++r::post→∀d∈depE EH r,d∈pre
theorem OrdOk.next {EH:List CE} {D rest:List Pr} (h:OrdOk EH D rest) (hc:Clo EH) (hr:rest≠[]):
 ∃i:Nat,idxP (nextB EH D) rest=i∧∃hi:i<rest.length,nextB EH D rest[i]=true:=by
 have hsome:∃r∈rest,nextB EH D r=true:=by
  obtain⟨x,hx⟩:∃x,x∈rest:=by cases rest with | nil=>exact absurd rfl hr | cons x _=>exact⟨x,by simp⟩
  have hxk:x∈EH.map (·.1.ref):=h.perm.mem_iff.1 (List.mem_append_right _ hx);obtain⟨p0,hp0,e0⟩:=List.mem_map.1 hxk;cases hf:EH.find? fun p=>decide (p.1.ref∈rest) with
  | none=>
   have:=List.find?_eq_none.1 hf p0 hp0;simp[e0,hx] at this
  | some p=>
   obtain⟨hp,pre,post,he,hpre⟩:=List.find?_eq_some_iff_append.1 hf;have hpr:p.1.ref∈rest:=by simpa using hp
   refine⟨p.1.ref,hpr,?_⟩;have hd:depE EH p.1.ref=p.1.deps:=by
    unfold depE;have:(EH.find? fun y=>y.1.ref==p.1.ref)=some p:=by
     rw[List.find?_eq_some_iff_append];refine⟨by simp,pre,post,he,fun y hy=>?_⟩;have hy1:=hpre y hy;simp at hy1 ⊢;exact fun e=>hy1 (by rw[e];exact hpr)
    rw[this];rfl
   rw[nextB_iff,hd];intro d hdd;have h1:=hc pre p post he d hdd;obtain⟨y,hy,ey⟩:=List.mem_map.1 h1;have h2:d∉rest:=fun e=>by have:=hpre y hy;simp[ey,e] at this
   have h3:d∈EH.map (·.1.ref):=by rw[he,List.map_append];exact List.mem_append_left _ h1
   rcases List.mem_append.1 (h.perm.mem_iff.2 h3) with e | e
   ·exact e
   ·exact absurd e h2
 obtain⟨r,hr1,hr2⟩:=hsome;have h1:=idxP_range (nextB EH D) rest;have h2:idxP (nextB EH D) rest≠-1:=fun e=>by rw[idxP_none.1 e r hr1] at hr2;cases hr2
 refine⟨(idxP (nextB EH D) rest).toNat,by omega,idxP_true (by omega)⟩
theorem OrdOk.step {EH:List CE} {D rest:List Pr} (h:OrdOk EH D rest) (i:Nat) (hi:i<rest.length) (hb:nextB EH D rest[i]=true):OrdOk EH (D++[rest[i]]) (rest.eraseIdx i):=by
 refine⟨?_,?_⟩
 ·rw[List.append_assoc];exact(List.Perm.append_left D (perm_erase rest i hi)).trans h.perm
 ·intro pre r post he d hd;rcases List.append_eq_append_iff.1 he with⟨a,h1,h2⟩ | ⟨a,h1,h2⟩
  ·cases a with
   | nil=>
    simp at h1 h2;obtain⟨rfl,_⟩:=h2;subst h1;exact nextB_iff.1 hb d hd
   | cons y a=>simp at h2
  ·cases a with
   | nil=>
    simp at h1 h2;obtain⟨rfl,_⟩:=h2;subst h1;exact nextB_iff.1 hb d hd
   | cons y a=>
    simp at h2;obtain⟨rfl,_⟩:=h2;exact h.dep pre r a h1 d hd
end Go.Proofs.YtamhlgflbacjgaaGreat
