/-
  What is proved: as each theorem says.
  Conditions: as each theorem says.
-/
import Derived.Test.YtamhlgflbacjgaaGreatF00
import Derived.Test.YtamhlgflbacjgaaGreatF06
import Derived.Test.YtamhlgflbacjgaaGreatF07
import Derived.Test.YtamhlgflbacjgaaGreatF08
import Derived.Deep.RegionLaw
import Derived.Deep.LoopGhost
set_option maxRecDepth 100000
set_option maxHeartbeats 16000000
namespace Go.Proofs.YtamhlgflbacjgaaGreat
open Go.RowKit Go.Maps
def NoCells (w:World) (S:List Nat):Prop:=∀b∈S,∀o,w.cell? ⟨b,o,none⟩=none
theorem noCells_map {w:World} {b:Nat} {L:List (Pr×Value)} (h:MapL w b L):NoCells w [b]:=fun x hx o=>by
 obtain⟨D,⟨es,clock,hb,_⟩,_⟩:=h.own;rw[List.mem_singleton.1 hx];simp[World.cell?,hb]
theorem Kp.cell {S:List Nat} {w w':World} (k:Kp S w w') {p:Addr} (hp:p.block<w.heap.size) (hS:p.block∉S):w'.cell? p=w.cell? p:=by
 unfold World.cell?;rw[k.block _ hp hS]
theorem IsPairs.keep {S:List Nat} {w w':World} {v:Value} {p:List Pr} (h:IsPairs w v p) (k:Kp S w w') (hn:NoCells w S):IsPairs w' v p:=by
 obtain⟨a,cap,rfl,h1,h2,hr,h3⟩:=h;refine⟨a,cap,rfl,h1,h2,hr,fun hl=>?_⟩;obtain⟨b,off,rfl,h4,h5⟩:=h3 hl;have hS:b∉S:=fun e=>by
  have h0:=(h5 0 (by cases p with | nil=>exact absurd rfl hl | cons _ _=>simp)).1;rw[hn b e] at h0;cases h0
 exact⟨b,off,rfl,Nat.lt_of_lt_of_le h4 k.size,fun i hi=>⟨by rw[k.cell (p:=⟨b,off+i*2,none⟩) h4 hS];exact(h5 i hi).1,by rw[k.cell (p:=⟨b,off+i*2+1,none⟩) h4 hS];exact(h5 i hi).2⟩⟩
theorem IsOps.keep {S:List Nat} {w w':World} {v:Value} {l:List OV} (h:IsOps w v l) (k:Kp S w w') (hn:NoCells w S):IsOps w' v l:=by
 obtain⟨a,cap,rfl,h1,h2,hr,h3⟩:=h;refine⟨a,cap,rfl,h1,h2,fun q hq=>⟨(hr q hq).1.keep k hn,(hr q hq).2⟩,fun hl=>?_⟩;obtain⟨b,off,rfl,h4,h5⟩:=h3 hl;have hS:b∉S:=fun e=>by
  have h0:=h5 0 (by cases l with | nil=>exact absurd rfl hl | cons _ _=>simp) 0 (by omega);rw[hn b e] at h0;simp[opCells] at h0
 exact⟨b,off,rfl,Nat.lt_of_lt_of_le h4 k.size,fun i hi j hj=>by rw[k.cell (p:=⟨b,off+i*13+j,none⟩) h4 hS];exact h5 i hi j hj⟩
theorem IsChgW.keep {S:List Nat} {w w':World} {v:Value} {c:Chg} (h:IsChgW w v c) (k:Kp S w w') (hn:NoCells w S):IsChgW w' v c:=by
 obtain⟨ud,uo,l,h1,h2,h3,h4,h5,h6⟩:=h;exact⟨ud,uo,l,h1,h2,h3.keep k hn,h4.keep k hn,h5,h6⟩
theorem IsChgW.below {w w':World} {v:Value} {c:Chg} (h:IsChgW w v c) (hb:Below w.heap.size w w'):IsChgW w' v c:=by
 obtain⟨ud,uo,l,h1,h2,h3,h4,h5,h6⟩:=h;exact⟨ud,uo,l,h1,h2,h3.below hb,h4.below hb,h5,h6⟩
theorem IsChgW.cv {w:World} {v:Value} {c:Chg} (h:IsChgW w v c):CV v:=by
 obtain⟨ud,uo,l,rfl,_,⟨a,k,rfl,_⟩,⟨a',k',rfl,_⟩,_⟩:=h;exact⟨_,_,_,_,_,_,_,_,_,rfl⟩
def Chg.ref (c:Chg):Pr:=(c.actor,c.seq)
theorem chkOps_every {l:List OpM} (h:chkOps l=0):∀o∈l,chkOp o=0:=by
 induction l with
 | nil=>simp
 | cons o r ih=>
  rw[chkOps] at h;split at h
  ·rename_i h0;intro x hx;rcases List.mem_cons.1 hx with rfl | hx
   ·exact h0
   ·exact ih h x hx
  ·rename_i h0;exact absurd h h0
theorem chk_few {c:Chg} (h:chk c=0):c.deps.length≤12∧c.ops.length≤40∧(∀o∈c.ops,o.preds.length≤12)∧(1≤c.actor∧c.actor≤99)∧(1≤c.seq∧c.seq≤1000000)∧(1≤c.start∧c.start≤1000000):=by
 unfold chk at h;split at h
 ·rename_i h0;unfold chkHead at h0;split at h0
  ·rename_i h1;simp only[fromB,Bool.and_eq_true,decide_eq_true_eq] at h1;split at h0
   ·cases h0
   ·split at h0
    ·split at h0
     ·cases h0
     ·refine⟨by omega,by omega,fun o ho=>?_,by omega,by omega,by omega⟩;have h2:=chkOps_every h o ho;unfold chkOp at h2;split at h2
      ·cases h2
      ·split at h2
       ·cases h2
       ·rename_i h3;omega
    ·rename_i h2;exact absurd h0 h2
  ·cases h0
 ·rename_i h0;exact absurd h h0
abbrev CE:Type:=Chg×Value
def ents (E:List CE):List (Pr×Value):=E.map fun p=>(p.1.ref,p.2)
theorem ents_len (E:List CE):(ents E).length=E.length:=by simp[ents]
theorem ents_keys (E:List CE):(ents E).map (·.1)=E.map (·.1.ref):=by simp[ents,Function.comp_def]
theorem ents_append (E F:List CE):ents (E++F)=ents E++ents F:=by simp[ents]
def Clo (E:List CE):Prop:=∀pre p post,E=pre++p::post→∀d∈p.1.deps,d∈pre.map (·.1.ref)
structure Bk (w:World) (g h q:Nat) (EH EW:List CE):Prop where
 book:BookAt w g h q (ents EH) (ents EW)
 chgs:∀p∈EH++EW,IsChgW w p.2 p.1∧chk p.1=0
 clo:Clo EH
 many:EH.length+EW.length≤120
 dis:∀r∈EW.map (·.1.ref),r∉EH.map (·.1.ref)
theorem Bk.noCells {w:World} {g h q:Nat} {EH EW:List CE} (B:Bk w g h q EH EW):NoCells w [h,q]:=fun x hx o=>by
 simp only[List.mem_cons,List.not_mem_nil,or_false] at hx;rcases hx with rfl | rfl
 ·exact noCells_map B.book.has _ (by simp) o
 ·exact noCells_map B.book.wait _ (by simp) o
theorem Bk.below {w w':World} {g h q:Nat} {EH EW:List CE} (B:Bk w g h q EH EW) (b:Below w.heap.size w w'):Bk w' g h q EH EW:=
 ⟨B.book.below b,fun p hp=>⟨(B.chgs p hp).1.below b,(B.chgs p hp).2⟩,B.clo,B.many,B.dis⟩
theorem Bk.cvH {w:World} {g h q:Nat} {EH EW:List CE} (B:Bk w g h q EH EW):∀x∈ents EH,CV x.2:=fun x hx=>by
 obtain⟨p,hp,rfl⟩:=List.mem_map.1 hx;exact(B.chgs p (List.mem_append_left _ hp)).1.cv
theorem Bk.cvW {w:World} {g h q:Nat} {EH EW:List CE} (B:Bk w g h q EH EW):∀x∈ents EW,CV x.2:=fun x hx=>by
 obtain⟨p,hp,rfl⟩:=List.mem_map.1 hx;exact(B.chgs p (List.mem_append_right _ hp)).1.cv
theorem clo_snoc {E:List CE} {p:CE} (hE:Clo E) (hp:∀d∈p.1.deps,d∈E.map (·.1.ref)):Clo (E++[p]):=by
 intro pre x post he d hd;rcases List.append_eq_append_iff.1 he with⟨a,h1,h2⟩ | ⟨a,h1,h2⟩
 ·cases a with
  | nil=>
   simp at h1 h2;obtain⟨rfl,_⟩:=h2;subst h1;exact hp d hd
  | cons y a=>
   simp at h2
 ·cases a with
  | nil=>
   simp at h1 h2;obtain⟨rfl,_⟩:=h2;subst h1;exact hp d hd
  | cons y a=>
   simp at h2;obtain⟨rfl,_⟩:=h2;exact hE pre x a h1 d hd
theorem clo_all {E:List CE} (hE:Clo E):∀p∈E,∀d∈p.1.deps,d∈E.map (·.1.ref):=fun p hp d hd=>by
 obtain⟨pre,post,rfl⟩:=List.append_of_mem hp;have:=hE pre p post rfl d hd;rw[List.map_append];exact List.mem_append_left _ this
theorem mem_keys {E:List CE} {r:Pr}:r∈E.map (·.1.ref)↔(lk (ents E) r).isSome=true:=by
 rw[←ents_keys];cases h:lk (ents E) r with
 | none=>simp only[Option.isSome_none];have:=lk_none.1 h;simp[this]
 | some v=>simp only[Option.isSome_some,iff_true];exact List.mem_map.2 ⟨_,lk_mem h,rfl⟩
theorem lk_ents {E:List CE} {r:Pr} {v:Value} (h:lk (ents E) r=some v):∃c,(c,v)∈E∧c.ref=r:=by
 obtain⟨p,hp,e⟩:=List.mem_map.1 (lk_mem h);simp at e;exact⟨p.1,by rw[←e.2];exact hp,e.1⟩
def vcells:Value→List Value
 | .agg a=>a.toList
 | _=>[]
theorem cv_cells {u:Value} (h:CV u):(vcells u).length=5∧∀x∈vcells u,x.oneCell'=true:=by
 obtain⟨a,s,t,d,n,c,o,m,e,rfl⟩:=h;refine⟨rfl,fun x hx=>?_⟩;simp[vcells] at hx;rcases hx with rfl | rfl | rfl | rfl | rfl <;> rfl
theorem flat_len {us:List Value} (h:∀u∈us,CV u):(us.flatMap vcells).length=us.length*5:=by
 induction us with
 | nil=>rfl
 | cons u us ih=>
  rw[List.flatMap_cons,List.length_append,ih (fun x hx=>h x (List.mem_cons_of_mem _ hx)),(cv_cells (h u (List.mem_cons_self ..))).1,List.length_cons];omega
abbrev RowC (B:Nat) (v:Value) (us:List Value) (w:World):Prop:=w.ownsRow B 33 5 v us.length (us.flatMap vcells)
theorem infoC:(Tryz.prog.info? 33).map (fun i=>(i.zero,i.size,i.bytes))=some (some zC,5,72):=by kernel_rfl
theorem run_appC (ty:TypeId) (W:World) (B:Nat) (hB:B≤W.heap.size) (v u:Value) (us:List Value) (hu:CV u) (h:RowC B v us W) (hl:us.length≤1000000) (x:Nat) (hx:W.heap[x]?=some (.cells (vcells u).toArray 33)):
 ∃v' W',(Builtin.append_ #[23,23] ty #[v,.slice (some ⟨x,0,none⟩) 1 1]).run Tryz.prog W=.ok v' W'∧RowC B v' (us++[u]) W'∧W.grownBy W' v.ownBlock:=by
 obtain⟨i0,hi0,hz0,hz1,hz2⟩:=info_parts infoC;obtain⟨v',W',h1,h2,h3,_⟩:=run_append_own (P:=Tryz.prog) W B 23 ty 33 i0 _ 5 _ Tryz.underlying23 hi0 hz0 hz1 hz2 rfl (by decide) v us.length _ h ⟨x,0,none⟩ 1 1 (vcells u) (by rw[(cv_cells hu).1]) (fun j y hj=>by
  have ea:(⟨x,0,none⟩:Addr).add j=⟨x,j,none⟩:=by unfold Addr.add;split <;> simp_all
  rw[ea];simp[World.cell?,hx,hj]) (cv_cells hu).2 (by unfold maxLen;omega) (by omega) hB
 refine⟨v',W',h1,?_,h3⟩;show World.ownsRow _ _ _ _ _ _ _;rw[List.flatMap_append,List.length_append];simpa using h2
def entV (L:List (Pr×Value)) (r:Pr):Value:=(lk L r).getD zC
def addR (D rs:List Pr):List Pr:=rs.foldl (fun D r=>if r∈D then D else D++[r]) D
theorem addR_snoc (D rs:List Pr) (r:Pr):addR D (rs++[r])=if r∈addR D rs then addR D rs else addR D rs++[r]:=by
 unfold addR;rw[List.foldl_append];rfl
theorem addR_len (D rs:List Pr):(addR D rs).length≤D.length+rs.length:=by
 induction rs generalizing D with
 | nil=>simp[addR]
 | cons r rs ih=>
  have h:=ih (if r∈D then D else D++[r]);have e:addR D (r::rs)=addR (if r∈D then D else D++[r]) rs:=rfl;rw[e];by_cases hm:r∈D
  ·rw[if_pos hm] at h ⊢;simp only[List.length_cons];omega
  ·rw[if_neg hm] at h ⊢;simp only[List.length_cons,List.length_append,List.length_nil] at h ⊢;omega
theorem lk_ones (D:List Pr) (r:Pr):lk (D.map fun r=>(r,(.int .i64 1:Value))) r=if r∈D then some (.int .i64 1) else none:=by
 split
 ·rename_i h;cases hk:lk (D.map fun r=>(r,(.int .i64 1:Value))) r with
  | none=>exact absurd (by simpa [Function.comp_def] using h) (lk_none.1 hk)
  | some v=>
   obtain⟨x,_,e⟩:=List.mem_map.1 (lk_mem hk);simp at e;rw[e.2]
 ·rename_i h;exact lk_none.2 (by simpa [Function.comp_def] using h)
structure Bh (w:World) (g:Nat) (L:List (Pr×Value)) (D:List Pr) (lv:Value) (wr:World):Prop where
 b:wr.heap[w.heap.size]?=some (.cells #[.pointer (some ⟨g,0,none⟩)] 25)
 l:wr.heap[w.heap.size+1]?=some (.cells #[lv] 23)
 m:MapL wr (w.heap.size+2) (D.map fun r=>(r,(.int .i64 1:Value)))
 s:wr.heap[w.heap.size+3]?=some (.cells #[.map (some (w.heap.size+2))] 86)
 row:RowC (w.heap.size+4) lv (D.map (entV L)) wr
 bel:Below w.heap.size w wr
 z:w.heap.size+4≤wr.heap.size
theorem Bh.below {w:World} {g:Nat} {L:List (Pr×Value)} {D:List Pr} {lv:Value} {wr V:World} (h:Bh w g L D lv wr) (hb:Below wr.heap.size wr V):Bh w g L D lv V:=
 ⟨heap_below h.b hb lRf,heap_below h.l hb lRf,h.m.below hb,heap_below h.s hb lRf,own_below h.row hb lRf,h.bel.trans (hb.mono (by have:=h.z;omega)),Nat.le_trans h.z hb.size⟩
theorem grown_heap {W W':World} {row:Option Nat} {k:Nat} {o:Obj} (h:W.heap[k]?=some o) (hg:W.grownBy W' row) (hne:some k≠row):W'.heap[k]?=some o:=by
 rw[hg.block k (lt_of_heap h) hne];exact h
theorem Bh.app {w:World} {g:Nat} {L:List (Pr×Value)} {D:List Pr} {lv nv:Value} {r:Pr} {wr V:World}
 (hb:wr.heap[w.heap.size]?=some (.cells #[.pointer (some ⟨g,0,none⟩)] 25)) (hl:wr.heap[w.heap.size+1]?=some (.cells #[lv] 23)) (hm:MapL wr (w.heap.size+2) ((D++[r]).map fun r=>(r,(.int .i64 1:Value)))) (hs:wr.heap[w.heap.size+3]?=some (.cells #[.map (some (w.heap.size+2))] 86))
 (hrow:RowC (w.heap.size+4) lv (D.map (entV L)) wr) (hbel:Below w.heap.size w wr) (hz:w.heap.size+4≤wr.heap.size) (hg:wr.grownBy V lv.ownBlock) (hn:RowC (w.heap.size+4) nv (D.map (entV L)++[entV L r]) V):
 Bh w g L (D++[r]) nv (V.setCell ⟨w.heap.size+1,0,none⟩ nv):=by
 have low:∀k,k<w.heap.size+4→some k≠lv.ownBlock:=fun k hk e=>by
  have:=(hrow.lt k e.symm).1;omega
 have bV:Below w.heap.size w V:=hbel.grown hg hbel.size (fun k e=>by have:=(hrow.lt k e).1;omega);have zV:w.heap.size+4≤V.heap.size:=Nat.le_trans hz hg.size;have lV:=grown_heap hl hg (low _ (by omega));have sz:=((Below.refl w.heap.size V).setCell (p:=⟨w.heap.size+1,0,none⟩) (show w.heap.size≤w.heap.size+1 by omega) nv).size;refine⟨heap_set_other (grown_heap hb hg (low _ (by omega))) (by omega),?_,?_,heap_set_other (grown_heap hs hg (low _ (by omega))) (by omega),?_,bV.setCell (p:=⟨w.heap.size+1,0,none⟩) (show w.heap.size≤w.heap.size+1 by omega) nv,by omega⟩
 ·exact set_at lV 0 nv
 ·have:=(hm.grown hg (low _ (by omega)))
  obtain⟨D',⟨es,clock,h0,h1⟩,h2⟩:=this.own;exact⟨⟨D',⟨es,clock,heap_set_other h0 (by omega),h1⟩,h2⟩,this.nd,this.r64⟩
 ·rw[List.map_append];exact ownsRow_setCell_below hn (a:=⟨w.heap.size+1,0,none⟩) (by show w.heap.size+1<w.heap.size+4;omega) nv
theorem zeroI (w:World):(zeroValue 3).run Tryz.prog w=.ok (.int .i64 0) w:=by kernel_rfl
theorem add_any (w:World) (g h q:Nat) (LH LW:List (Pr×Value)) (D:List Pr) (lv v:Value) (rs:List Pr) (W:World) (Bw:BookAt w g h q LH LW) (hC:∀q∈LH,CV q.2) (hv:IsPairs w v rs) (B:Bh w g LH D lv W) (hn:D.length+rs.length≤100000):
 Calls Tryz.prog 81 #[v,.pointer (some ⟨w.heap.size+3,0,none⟩),.pointer (some ⟨w.heap.size+1,0,none⟩),.pointer (some ⟨w.heap.size,0,none⟩)] W fun e w'=>e=.returned (.tuple #[])∧∃nv,Bh w g LH (addR D rs) nv w':=by
 obtain⟨a,cap,rfl,h1,h2,hr,h3⟩:=hv;have H3:Hid (rs≠[]→∃b off,a=some ⟨b,off,none⟩∧_):=h3;have HA:=hY5 Bw hC B hn hr;clear h3 h1 h2 Bw hC B hn hr;go_enter Tryz.func81,Tryz.ntmps81
 go_wp2_with fail;go_loopw [9] (fun i wr=>∃(k:Nat) (nv:Value),k≤rs.length∧i=.int .i64 k∧Hid (Bh w g LH (addR D (rs.take k)) nv wr)) (fun i _=>rs.length - (RowKit.intOf i).toNat)
 case atStart=>exact⟨0,lv,Nat.zero_le _,rfl,HA.out.2.2.1⟩
 case round=>
  obtain⟨k,nv,hk,rfl,hB⟩:=hrel;by_cases hlt:k<rs.length
  ·obtain⟨b,off,rfl,h4,h5⟩:=H3.out (fun e=>by rw[e] at hlt;simp at hlt);have hbel:=hB.out.bel;have x0:wr.cell? ⟨b,off+k*2,none⟩=some (.int .i64 rs[k].1):=by rw[hbel.cell (p:=⟨b,off+k*2,none⟩) h4];exact(h5 k hlt).1
   have x1:wr.cell? ⟨b,off+k*2+1,none⟩=some (.int .i64 rs[k].2):=by rw[hbel.cell (p:=⟨b,off+k*2+1,none⟩) h4];exact(h5 k hlt).2
   have g1:(k:Int)<rs.length:=by omega
   have g2:(k:Int)<100000:=by have:=HA.out.2.2.2.1;omega
   have h64:R64 rs[k]:=HA.out.2.2.2.2 _ (List.getElem_mem hlt);have hlen:=addR_len D (rs.take k);rw[List.length_take] at hlen;have hD1:addR D (rs.take (k+1))=if rs[k]∈addR D (rs.take k) then addR D (rs.take k) else addR D (rs.take k)++[rs[k]]:=by
    rw[List.take_succ_eq_append_getElem hlt,addR_snoc]
   obtain⟨r,hq⟩:=gNz (rs[k]:Pr);obtain⟨D',hD'⟩:∃D',addR D (rs.take k)=D':=⟨_,rfl⟩
   rw[hD'] at hB hD1 hlen;rw[hq] at x0 x1 h64 hD1;have HK:=hY2 hlt ((by have:=HA.out.2.2.2.1;omega):D'.length≤100000);have HD:Hid (addR D (rs.take (k+1))=_):=hD1;have bA:=bAl wr (.cells #[.int .i64 r.1,.int .i64 r.2] 45);have hB1:=hB.out.below bA;have N:=heap_alloc_new wr (.cells #[.int .i64 r.1,.int .i64 r.2] 45);have hlk:=hB1.m.look1 Tryz.underlying86 (zeroI _) h64;rw[lk_ones] at hlk;have c1:(wr.alloc (.cells #[.int .i64 r.1,.int .i64 r.2] 45)).cell? ⟨w.heap.size+3,0,none⟩=some (.map (some (w.heap.size+2))):=cLo hB1.s 0;have hne:w.heap.size+3<wr.heap.size:=by have:=hB.out.z;omega
   have HB1:=hY2 hB1 N;have Hk:Hid (k≤rs.length):=hk;clear h5 hk hlt hD1 hlen hbel hB hq bA hB1 N;by_cases hm:r∈D'
   ·rw[if_pos hm] at hlk HD;simp only[Option.getD_some] at hlk;have HM:Hid (r∈D'):=hm;clear hm;go_wp2;go_roundw
    case rel=>exact⟨k+1,nv,HK.out.1,by go_num,by rw[HD.out];exact HB1.out.1⟩
    case measure=>simp[RowKit.intOf];have:=HK.out;omega
   ·rw[if_neg hm] at hlk HD;simp only[Option.getD_none] at hlk;have hput:=HB1.out.1.m.put Tryz.underlying86 h64 (by simp;have:=HK.out;omega) (.int .i64 1);obtain⟨V,hrun,hM,ht⟩:=hput;have HV:=hY2 hM ht;have HM:Hid (r∉D'):=hm;clear hm hM ht;go_upto_region 5 with fail
    have kp:=Kp.turned HV.out.2;have z0:=HB1.out.1.z;have vb:=kp.heap HB1.out.1.b (by simp);have vl:=kp.heap HB1.out.1.l (by simp);have vs:=kp.heap HB1.out.1.s (by simp);have vN:=kp.heap HB1.out.2 (by simp;omega);have vbook:=HA.out.1.below ((HB1.out.1.bel).trans (kp.below (B:=w.heap.size) (by simp) HB1.out.1.bel.size));have vbel:Below w.heap.size w V:=(HB1.out.1.bel).trans (kp.below (B:=w.heap.size) (by simp) HB1.out.1.bel.size);have vrow:RowC (w.heap.size+4) nv (D'.map (entV LH)) V:=HB1.out.1.row.kept HV.out.2.grown (Or.inr (fun e=>by have:=(HB1.out.1.row.lt _ e).1;omega));have vz:w.heap.size+4≤V.heap.size:=Nat.le_trans z0 kp.size;have vM:MapL V (w.heap.size+2) ((D'++[r]).map fun r=>(r,(.int .i64 1:Value))):=by
     have:=HV.out.1;rw[putL_new (by rw[lk_ones,if_neg HM.out])] at this;simpa using this
    have c2:V.cell? ⟨w.heap.size+1,0,none⟩=some nv:=cLo vl 0;have c3:V.cell? ⟨w.heap.size,0,none⟩=some (.pointer (some ⟨g,0,none⟩)):=cLo vb 0;have c4:V.cell? ⟨g,0,none⟩=some (.map (some h)):=cLo vbook.box 0;obtain⟨c5,c6,-⟩:=cLs vN;have s1:=lt_of_heap vl;have s2:=lt_of_heap vb;have s3:=lt_of_heap vbook.box;have s4:=lt_of_heap vN;have hlk2:=MapL.look1 (w:=V.drew) ⟨vbook.has.own,vbook.has.nd,vbook.has.r64⟩ Tryz.underlying75 (zeroC _) h64;have hcv:=cv_look HA.out.2.1 r;have hent:entV LH r=(lk LH r).getD zC:=rfl;rw[←hent] at hlk2 hcv;have bD:Below V.heap.size V (V.drew.alloc (.cells (vcells (entV LH r)).toArray 33)):=(drew_of (Below.refl _ V)).alloc lRf _;have x5:(V.drew.alloc (.cells (vcells (entV LH r)).toArray 33)).heap[V.heap.size]?=some (.cells (vcells (entV LH r)).toArray 33):=heap_alloc_new V.drew _;obtain⟨nv',U,happ,hrow',hgr⟩:=run_appC 23 (V.drew.alloc (.cells (vcells (entV LH r)).toArray 33)) (w.heap.size+4) (Nat.le_trans vz bD.size) nv (entV LH r) (D'.map (entV LH)) hcv (own_below vrow bD lRf) (by simp;have:=HK.out;omega) V.heap.size x5;obtain⟨na,nn,nc,rfl⟩:∃a n c,nv'=.slice a n c:=by
     rcases hrow'.2 with⟨e,_⟩ | ⟨_,_,_,e,_⟩
     ·exact⟨_,_,_,e⟩
     ·exact⟨_,_,_,e⟩
    have low:∀k,k<w.heap.size+4→some k≠nv.ownBlock:=fun k hk e=>by
     have:=(vrow.lt k e.symm).1;omega
    have ul:=grown_heap (heap_below vl bD lRf) hgr (low _ (by omega));have c7:U.cell? ⟨w.heap.size+1,0,none⟩=some nv:=cLo ul 0;have uf:=fRz ul;have s5:=lt_of_heap ul;have HX:Hid (Bh w g LH (D'++[r]) (.slice na nn nc) (U.setCell ⟨w.heap.size+1,0,none⟩ (.slice na nn nc))):=Bh.app (heap_below vb bD lRf) (heap_below vl bD lRf) (vM.below bD) (heap_below vs bD lRf) (own_below vrow bD lRf) (vbel.trans (bD.mono vbel.size)) (Nat.le_trans vz bD.size) hgr hrow';obtain⟨ea,es,et,ed,en,ec,eo,em,ee,hev⟩:=hcv;rw[hev] at hlk2 happ hgr;simp only[vcells] at happ hgr;clear kp z0 vb vl vs vN vbook vbel vrow vz vM hent bD x5 hrow' low ul hgr hlk hrun c1 x0 x1;go_region_law (refine step_append_known rfl (.tmp 19) (.tmp 26) 23 rfl nv (.slice (some ⟨V.heap.size,0,none⟩) 1 1) (.slice na nn nc) U (by simp[Act.eval]) (by simp[Act.eval]) happ ?_);all_goals
     have hX:=HX.out;clear c2 c3 c4 c5 c6 c7 uf hlk2 happ s1 s2 s3 s4 s5 hev;generalize U.setCell ⟨w.heap.size+1,0,none⟩ (.slice na nn nc)=U2 at *;have HY:Hid _:=hX;clear hX;go_wp2;go_roundw
     case rel=>exact⟨k+1,_,HK.out.1,by go_num,by rw[HD.out];exact HY.out⟩
     case measure=>simp[RowKit.intOf];have:=HK.out;omega
  ·have hke:k=rs.length:=by omega
   subst hke;rw[List.take_length] at hB;clear hlt hk;go_wp2;go_end0;exact⟨rfl,nv,hB.out⟩
theorem flat_at {us:List Value} (h:∀u∈us,CV u) (k:Nat) (hk:k<us.length) (j:Nat) (hj:j<5):(us.flatMap vcells)[k*5+j]?=(vcells us[k])[j]?:=by
 induction us generalizing k with
 | nil=>simp at hk
 | cons u us ih=>
  rw[List.flatMap_cons];have h5:=(cv_cells (h u (List.mem_cons_self ..))).1;cases k with
  | zero=>
   rw[List.getElem?_append_left (by omega)];simp
  | succ k=>
   rw[List.getElem?_append_right (by omega),h5];have:=ih (fun x hx=>h x (List.mem_cons_of_mem _ hx)) k (by simpa using hk);rw[show(k+1)*5+j - 5=k*5+j by omega,this];simp
def depE (E:List CE) (r:Pr):List Pr:=((E.find? fun p=>p.1.ref==r).map (·.1.deps)).getD []
theorem lk_find (E:List CE) (r:Pr):lk (ents E) r=(E.find? fun p=>p.1.ref==r).map (·.2):=by
 unfold lk ents;rw[List.find?_map];simp[Function.comp_def,Option.map_map]
def behS (dep:Pr→List Pr) (hs:List Pr):Nat→List Pr
 | 0=>addR [] hs
 | k+1=>addR (behS dep hs k) (dep ((behS dep hs k).getD k (0,0)))
theorem addR_mem (D rs:List Pr) (x:Pr):x∈addR D rs↔x∈D∨x∈rs:=by
 induction rs generalizing D with
 | nil=>simp[addR]
 | cons r rs ih=>
  have e:addR D (r::rs)=addR (if r∈D then D else D++[r]) rs:=rfl;rw[e,ih];by_cases hm:r∈D
  ·rw[if_pos hm];simp only[List.mem_cons];constructor
   ·rintro(h | h)
    ·exact Or.inl h
    ·exact Or.inr (Or.inr h)
   ·rintro(h | rfl | h)
    ·exact Or.inl h
    ·exact Or.inl hm
    ·exact Or.inr h
  ·rw[if_neg hm];simp only[List.mem_cons,List.mem_append,List.not_mem_nil,or_false];constructor
   ·rintro((h | h) | h)
    ·exact Or.inl h
    ·exact Or.inr (Or.inl h)
    ·exact Or.inr (Or.inr h)
   ·rintro(h | h | h)
    ·exact Or.inl (Or.inl h)
    ·exact Or.inl (Or.inr h)
    ·exact Or.inr h
theorem nodup_len {D K:List Pr} (hn:D.Nodup) (hs:∀x∈D,x∈K):D.length≤K.length:=by
 induction D generalizing K with
 | nil=>simp
 | cons x D ih=>
  simp only[List.nodup_cons] at hn;have hx:=hs x (List.mem_cons_self ..);have:=ih (K:=K.erase x) hn.2 (fun y hy=>(List.mem_erase_of_ne (fun e=>hn.1 (by rw[←e];exact hy))).2 (hs y (List.mem_cons_of_mem _ hy)));rw[List.length_erase_of_mem hx] at this;have hp:0<K.length:=List.length_pos_of_mem hx;simp only[List.length_cons];omega
theorem ent_of {E:List CE} {r:Pr} (h:r∈E.map (·.1.ref)):∃p∈E,p.1.ref=r∧entV (ents E) r=p.2∧depE E r=p.1.deps:=by
 cases hf:E.find? fun p=>p.1.ref==r with
 | none=>
  obtain⟨p,hp,e⟩:=List.mem_map.1 h;have:=List.find?_eq_none.1 hf p hp;simp[e] at this
 | some p=>
  have h1:=List.mem_of_find?_eq_some hf;have h2:=List.find?_some hf;refine⟨p,h1,by simpa using h2,?_,?_⟩
  ·unfold entV;rw[lk_find,hf];rfl
  ·unfold depE;rw[hf];rfl
def BehP (w:World) (EH:List CE) (hs:List Pr) (lv:Value) (w':World):Prop:=
 ∃(D:List Pr) (k:Nat),RowC w.heap.size lv (D.map (entV (ents EH))) w'∧D=behS (depE EH) hs k∧k=D.length∧D.Nodup∧(∀r∈D,r∈EH.map (·.1.ref))∧Below w.heap.size w w'
theorem behind_any (w:World) (g h q:Nat) (EH EW:List CE) (v:Value) (hs:List Pr) (B:Bk w g h q EH EW) (hv:IsPairs w v hs) (hk:∀r∈hs,r∈EH.map (·.1.ref)) (hl:hs.length≤12):
 Calls Tryz.prog 46 #[.pointer (some ⟨g,0,none⟩),v] w fun e w'=>∃lv,e=.returned lv∧BehP w EH hs lv w':=by
 have hmm:=@run_makeMap Tryz.prog;obtain⟨va,vc,rfl,_⟩:=id hv;obtain⟨W0,hW0⟩:∃W0,W0=(((w.alloc (.cells #[.pointer (some ⟨g,0,none⟩)] 25)).alloc (.cells #[.slice none 0 0] 23)).alloc (.map #[] 0)).alloc (.cells #[.map (some (w.heap.size+2))] 86):=⟨_,rfl⟩
 have B0:Bh w g (ents EH) [] (.slice none 0 0) W0:=by
  have M2:=MapL.made ((w.alloc (.cells #[.pointer (some ⟨g,0,none⟩)] 25)).alloc (.cells #[.slice none 0 0] 23));have e2:((w.alloc (.cells #[.pointer (some ⟨g,0,none⟩)] 25)).alloc (.cells #[.slice none 0 0] 23)).heap.size=w.heap.size+2:=by simp
  rw[e2] at M2;have n1:=heap_alloc_new (w.alloc (.cells #[.pointer (some ⟨g,0,none⟩)] 25)) (.cells #[.slice none 0 0] 23);rw[show(w.alloc (.cells #[.pointer (some ⟨g,0,none⟩)] 25)).heap.size=w.heap.size+1 from by simp] at n1;have n3:=heap_alloc_new (((w.alloc (.cells #[.pointer (some ⟨g,0,none⟩)] 25)).alloc (.cells #[.slice none 0 0] 23)).alloc (.map #[] 0)) (.cells #[.map (some (w.heap.size+2))] 86);rw[show(((w.alloc (.cells #[.pointer (some ⟨g,0,none⟩)] 25)).alloc (.cells #[.slice none 0 0] 23)).alloc (.map #[] 0)).heap.size=w.heap.size+3 from by simp] at n3;rw[hW0];refine⟨heap_alloc_old (heap_alloc_old (heap_alloc_old (heap_alloc_new w _) _) _) _,heap_alloc_old (heap_alloc_old n1 _) _,M2.below (bAl _ _),n3,World.ownsRow_nil _ _ _ _,(((bAl _ _).alloc (by simp) _).alloc (by simp;omega) _).alloc (by simp;omega) _,by simp⟩
 have E1:=add_any w g h q (ents EH) (ents EW) [] (.slice none 0 0) (.slice va hs.length vc) hs W0 B.book B.cvH hv B0 (by simp;omega);have eg:∀args w,(callFunc 81 args).run Tryz.prog w=.ok (.enter 81 args) w:=enters_of Tryz.func81 (by kernel_rfl) rfl;have HA:=hY2 B hk;rw[hW0] at E1;clear B0 hW0 B hv hk;go_enter Tryz.func46,Tryz.ntmps46
 go_wp2_with fail;go_fit E1;rintro e w1 ⟨rfl,lv,hB1⟩;have HB1:Hid _:=hB1;clear E1 hB1;go_wp2_with fail;go_loopw [8] (fun i wr=>∃(k:Nat) (D:List Pr) (lv:Value),k≤D.length∧i=.int .i64 k∧Hid (D=behS (depE EH) hs k∧(∀r∈D,r∈EH.map (·.1.ref))∧Bh w g (ents EH) D lv wr)) (fun i _=>200 - (RowKit.intOf i).toNat)
 case atStart=>exact⟨0,_,lv,Nat.zero_le _,rfl,rfl,fun r hr=>HA.out.2 r (by have:=(addR_mem [] hs r).1 hr;simpa using this),HB1.out⟩
 case round=>
  clear HB1 lv;obtain⟨k,D,lv,hkD,rfl,hB⟩:=hrel;have hnd:D.Nodup:=by have:=hB.out.2.2.m.nd;simpa [Function.comp_def] using this
  have hlen:D.length≤120:=by
   have h1:=nodup_len hnd hB.out.2.1;have h2:=HA.out.1.many;rw[List.length_map] at h1;omega
  have c0:wr.cell? ⟨w.heap.size+1,0,none⟩=some lv:=cLo hB.out.2.2.l 0;have s0:=lt_of_heap hB.out.2.2.l;have hcvs:∀u∈D.map (entV (ents EH)),CV u:=fun u hu=>by
   obtain⟨r,_,rfl⟩:=List.mem_map.1 hu;exact cv_look HA.out.1.cvH r
  by_cases hlt:k<D.length
  ·have hrow:=hB.out.2.2.row;rcases hrow.2 with⟨_,h0⟩ | ⟨gb,cap,cur,rfl,hg,hcur,hcap,hm,hz,ht⟩
   ·simp at h0;rw[h0] at hlt;simp at hlt
   rw[List.length_map] at hcap c0;have hrk:D[k]∈EH.map (·.1.ref):=hB.out.2.1 _ (List.getElem_mem hlt);obtain⟨p,hp,hpr,hpv,hpd⟩:=ent_of hrk;obtain⟨hchg,hchk⟩:=HA.out.1.chgs p (List.mem_append_left _ hp);obtain⟨ud,uo,lo,h1,h2,h3,_⟩:=hchg;obtain⟨da,dc,rfl,_⟩:=id h3;have hcell:wr.cell? ⟨gb,k*5+3,none⟩=some (.slice da p.1.deps.length dc):=by
    have:=hrow.cellAt (k*5+3) (by rw[List.length_map];omega);rw[flat_at hcvs k (by simpa using hlt) 3 (by omega)] at this;rw[this];simp only[List.getElem_map];rw[hpv,h1];rfl
   have E:=add_any w g h q (ents EH) (ents EW) D _ (.slice da p.1.deps.length dc) p.1.deps wr HA.out.1.book HA.out.1.cvH h3 hB.out.2.2 (by have:=(chk_few hchk).1;omega);have HN:Hid (addR D p.1.deps=behS (depE EH) hs (k+1)∧∀r∈addR D p.1.deps,r∈EH.map (·.1.ref)):=by
    refine⟨?_,fun r hr=>?_⟩
    ·show _=addR (behS (depE EH) hs k) (depE EH ((behS (depE EH) hs k).getD k (0,0)));rw[←hB.out.1];simp[List.getD,hlt,hpd]
    ·rcases(addR_mem _ _ r).1 hr with e | e
     ·exact hB.out.2.1 r e
     ·exact clo_all HA.out.1.clo p hp r e
   have HK:=hY2 hlt hlen;have g1:(k:Int)<D.length:=by omega
   have g2:(k:Int)<120:=by omega
   have HM:Hid (∀r,r∈D→r∈addR D p.1.deps):=fun r hr=>(addR_mem _ _ r).2 (Or.inl hr);have HND:Hid (D.Nodup):=hnd;have s1:=lt_of_heap hcur;clear hB hkD hnd hlen hcvs hlt hrow hrk hp hpr hpv hpd hchk h1 h2 h3 hg hcur hcap hm hz ht;go_wp2_with fail;go_fit E;rintro e w2 ⟨rfl,lv2,hB2⟩;have HB2:Hid _:=hB2;have HL:Hid (k+1≤(addR D p.1.deps).length):=by
    have:=nodup_len HND.out HM.out;have:=HK.out;show _≤_;omega
   clear E hB2 c0 hcell;go_wp2;go_roundw
   case rel=>exact⟨k+1,_,lv2,HL.out,by go_num,HN.out.1,HN.out.2,HB2.out⟩
   case measure=>simp[RowKit.intOf];have:=HK.out;omega
  ·have hke:k=D.length:=by omega
   obtain⟨la,ln,lc,rfl⟩:∃a n c,lv=.slice a n c:=by
    rcases hB.out.2.2.row.2 with⟨e,_⟩ | ⟨_,_,_,e,_⟩
    ·exact⟨_,_,_,e⟩
    ·exact⟨_,_,_,e⟩
   have hln:ln=D.length:=by
    rcases hB.out.2.2.row.2 with⟨e,h0⟩ | ⟨_,_,_,e,_⟩
    ·simp at h0;have:=(Value.slice.inj e).2.1;rw[h0];simpa using this
    ·have:=(Value.slice.inj e).2.1;simpa using this
   subst hln;have HND:Hid (D.Nodup):=hnd;have HK:Hid (k=D.length):=hke;have g1:¬(k:Int)<D.length:=by omega
   clear hlt hcvs hnd hlen hkD hke;go_wp2;go_ret;exact⟨_,rfl,D,k,own_mono hB.out.2.2.row (Nat.le_add_right _ _),hB.out.1,HK.out,HND.out,hB.out.2.1,hB.out.2.2.bel⟩
end Go.Proofs.YtamhlgflbacjgaaGreat
