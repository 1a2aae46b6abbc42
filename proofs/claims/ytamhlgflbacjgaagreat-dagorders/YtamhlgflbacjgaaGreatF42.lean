/-
  What is proved: as each theorem says.
  Conditions: as each theorem says.
-/
import Derived.Test.YtamhlgflbacjgaaGreatF00
import Derived.Test.YtamhlgflbacjgaaGreatF41
import Derived.Deep.CutBlock
set_option maxRecDepth 100000
set_option maxHeartbeats 16000000
namespace Go.Proofs.YtamhlgflbacjgaaGreat
open Go.RowKit Go.Sort
theorem i64c (z:Int) (h:0≤z∧z<1000000):I64 z:=by unfold I64;omega
def IsSteps (w:World) (v:Value) (l:List (List Int)):Prop:=
 ∃a cap,v=.slice a l.length cap∧l.length≤cap∧(l≠[]→∃b off,a=some ⟨b,off,none⟩∧b<w.heap.size∧∀i (h:i<l.length),∃u,w.cell? ⟨b,off+i,none⟩=some u∧IsNums w u l[i])
theorem IsNums.below {w w':World} {v:Value} {l:List Int} (h:IsNums w v l) (b:Below w.heap.size w w'):IsNums w' v l:=by
 obtain⟨a,cap,rfl,h1,h2,h3⟩:=h;refine⟨a,cap,rfl,h1,h2,fun hl=>?_⟩;obtain⟨k,off,rfl,h4,h5⟩:=h3 hl;exact⟨k,off,rfl,Nat.lt_of_lt_of_le h4 b.size,fun i hi=>(b.cell (p:=⟨k,off+i,none⟩) h4).trans (h5 i hi)⟩
def ptrs (HS:List HR):List Value:=HS.map fun x=>.pointer (some ⟨x.h,0,none⟩)
theorem ofHs:OfSize 47 51 1:=⟨Tryz.underlying47,by decide,by kernel_rfl⟩
theorem Hands.wide {lo lo':Lo} {HS:List HR} {w w':World} (H:Hands lo HS w) (hn:lo'.n=lo.n) (K:KpS (fun b=>lo.D b∨w.heap.size≤b) w w') (hD:∀b,lo'.D b→(lo.D b∨w.heap.size≤b)∧b<w'.heap.size):Hands lo' HS w':=by
 have kl:KpS (LV lo HS w) w w':=K.mono fun b _ hb=>Or.inr (hb.elim Or.inr Or.inl);have mv:∀b,LV lo' HS w' b→LV lo HS w b:=fun b hb=>by
  rcases hb with hb | hb | hb
  ·exact Or.inl hb
  ·exact Or.inr (Or.inl (Nat.le_trans K.size hb))
  ·exact Or.inr ((hD b hb).1.elim Or.inr Or.inl)
 refine⟨fun x hx=>(H.hand x hx).stay fun b hb hlt=>K.block b hlt (fun h=>?_),fun x hx b hb=>by rw[hn];exact H.low x hx b hb,fun x hx b hb hd=>?_,fun b hb=>(hD b hb).2,H.dis,fun x hx p hp=>((H.fz x hx p hp).kp kl).mono fun b _ hb=>mv b hb,fun x hx q hq=>((H.fq x hx q hq).kp kl).mono fun b _ hb=>mv b hb,by rw[hn];exact Nat.le_trans H.lo K.size⟩
 ·rcases h with h | h
  ·exact H.out x hx b hb h
  ·omega
 ·rcases(hD b hd).1 with h | h
  ·exact H.out x hx b hb h
  ·have:=(H.hand x hx).lt hb;omega
structure CG (w0:World) (HS:List HR) (hv ov:Value) (O:List Pr) (xs:List Nat) (wr:World):Prop where
 hands:∃lo:Lo,w0.heap.size≤lo.n∧(∀b,hv.ownBlock=some b∨ov.ownBlock=some b∨b∈xs→lo.D b)∧Hands lo HS wr
 far:∀b∈xs,hv.ownBlock≠some b∧ov.ownBlock≠some b∧w0.heap.size≤b
 ok:∀x∈HS,HOk x
 hrow:wr.ownsRow w0.heap.size 51 1 hv HS.length (ptrs HS)
 orow:OwnI w0.heap.size ov O wr
 nums:∀q∈O,I64 q.1∧I64 q.2
 bel:Below w0.heap.size w0 wr
theorem CG.next {w0 wr w':World} {HS:List HR} {hv ov:Value} {O:List Pr} {xs:List Nat} (C:CG w0 HS hv ov O xs wr) (b:Below wr.heap.size wr w'):CG w0 HS hv ov O xs w':=by
 obtain⟨lo,h1,hd,h2⟩:=C.hands;exact⟨⟨lo,h1,hd,h2.below b⟩,C.far,C.ok,own_below C.hrow b lRf,own_below C.orow b lRf,C.nums,C.bel.trans (b.mono C.bel.size)⟩
theorem ptrs_set {HS:List HR} {i:Nat} {x x':HR} (hi:HS[i]?=some x) (h:x'.h=x.h):ptrs (HS.set i x')=ptrs HS:=by
 unfold ptrs;rw[List.map_set,h];obtain⟨hl,e⟩:=List.getElem?_eq_some_iff.1 hi;refine List.ext_getElem? fun j=>?_;by_cases hj:i=j
 ·subst hj;rw[List.getElem?_set_self (by rw[List.length_map];exact hl),List.getElem?_map,hi];rfl
 ·rw[List.getElem?_set_ne hj]
theorem CG.step {w0 wr w':World} {HS:List HR} {hv ov:Value} {O:List Pr} {xs:List Nat} (C:CG w0 HS hv ov O xs wr) {i:Nat} {x:HR} (hi:HS[i]?=some x) {lo:Lo} (h1:w0.heap.size≤lo.n) (hd:∀b,hv.ownBlock=some b∨ov.ownBlock=some b∨b∈xs→lo.D b) (h2:Hands lo HS wr) (h:StepP lo HS i x wr w'):∃x',CG w0 (HS.set i x') hv ov O xs w'∧(∀(b:Nat) (cur:Array Value) (t:TypeId),wr.heap[b]?=some (.cells cur t)→t≠68∧t≠73∧t≠33∧t≠62→w'.heap[b]?=some (.cells cur t)):=by
 obtain⟨x',g1,g2,g3,K⟩:=h;have hx:=List.mem_of_getElem? hi;have keep:∀(b:Nat) (cur:Array Value) (t:TypeId),wr.heap[b]?=some (.cells cur t)→t≠68∧t≠73∧t≠33∧t≠62→w'.heap[b]?=some (.cells cur t):=fun b cur t hb ht=>step_keep h2 hi K hb ht;refine⟨x',⟨⟨lo,h1,hd,g1⟩,C.far,fun y hy=>?_,?_,?_,C.nums,C.bel.trans (K.below C.bel.size fun b hb=>?_)⟩,keep⟩
 ·rcases List.mem_or_eq_of_mem_set hy with hy | rfl
  ·exact C.ok y hy
  ·exact g3
 ·rw[List.length_set,ptrs_set hi g2.h];exact own_stay C.hrow fun b hb=>by
   obtain⟨c,hc⟩:=own_type C.hrow hb;rw[keep b _ _ hc (by decide),hc]
 ·exact own_stay C.orow fun b hb=>by
   obtain⟨c,hc⟩:=own_type C.orow hb;rw[keep b _ _ hc (by decide),hc]
 ·rcases hb with hb | hb
  ·exact Nat.le_trans h1 (h2.low x hx b hb)
  ·exact Nat.le_trans C.bel.size hb
theorem CG.poke {w0 wr:World} {HS:List HR} {hv ov:Value} {O:List Pr} {xs:List Nat} (C:CG w0 HS hv ov O xs wr) {wb:Nat} (hb:wb∈xs) (i:Nat) (u:Value):CG w0 HS hv ov O xs (wr.setCell ⟨wb,i,none⟩ u):=by
 obtain⟨lo,h1,hd,h2⟩:=C.hands;obtain⟨f1,f2,f3⟩:=C.far wb hb;have K:KpS (fun b=>lo.D b∨wr.heap.size≤b) wr (wr.setCell ⟨wb,i,none⟩ u):=KpS.set u (Or.inl (hd wb (Or.inr (Or.inr hb))));have same:∀b,b≠wb→(wr.setCell ⟨wb,i,none⟩ u).heap[b]?=wr.heap[b]?:=fun b hb=>Below.heap_setCell _ _ _ _ (by simpa using hb);exact⟨⟨lo,h1,hd,h2.wide rfl K fun b hb=>⟨Or.inl hb,Nat.lt_of_lt_of_le (h2.dl b hb) K.size⟩⟩,C.far,C.ok,own_stay C.hrow fun b e=>same b (fun h=>f1 (h▸e)),own_stay C.orow fun b e=>same b (fun h=>f2 (h▸e)),C.nums,C.bel.setCell f3 u⟩
theorem CG.box {w0 wr:World} {HS:List HR} {hv ov:Value} {O:List Pr} {xs:List Nat} (C:CG w0 HS hv ov O xs wr) (o:Obj):CG w0 HS hv ov O (wr.heap.size::xs) (wr.alloc o):=by
 obtain⟨lo,h1,hd,h2⟩:=C.hands;have b:Below wr.heap.size wr (wr.alloc o):=bAl _ _;have N:=C.next b;refine⟨⟨⟨lo.n,fun k=>lo.D k∨k=wr.heap.size⟩,h1,fun k hk=>?_,h2.wide rfl (KpS.of b |>.mono fun k hk hS=>by omega) fun k hk=>?_⟩,fun k hk=>?_,N.ok,N.hrow,N.orow,N.nums,N.bel⟩
 ·rcases hk with hk | hk | hk
  ·exact Or.inl (hd k (Or.inl hk))
  ·exact Or.inl (hd k (Or.inr (Or.inl hk)))
  ·rcases List.mem_cons.1 hk with hk | hk
   ·exact Or.inr hk
   ·exact Or.inl (hd k (Or.inr (Or.inr hk)))
 ·rcases hk with hk | hk
  ·exact⟨Or.inl hk,Nat.lt_of_lt_of_le (h2.dl k hk) b.size⟩
  ·exact⟨Or.inr (Nat.le_of_eq hk.symm),by rw[hk];simp⟩
 ·rcases List.mem_cons.1 hk with rfl | hk
  ·exact⟨fun e=>by have:=(C.hrow.lt _ e).2;omega,fun e=>by have:=(C.orow.lt _ e).2;omega,C.bel.size⟩
  ·exact C.far k hk
theorem CG.forget {w0 wr:World} {HS:List HR} {hv ov:Value} {O:List Pr} {xs:List Nat} (C:CG w0 HS hv ov O xs wr):CG w0 HS hv ov O [] wr:=by
 obtain⟨lo,h1,hd,h2⟩:=C.hands;exact⟨⟨lo,h1,fun b hb=>hd b (hb.imp id fun h=>h.imp id fun h=>by cases h),h2⟩,fun b h=>(by cases h),C.ok,C.hrow,C.orow,C.nums,C.bel⟩
theorem CG.obj {w0 wr w':World} {HS:List HR} {hv ov ov':Value} {O:List Pr} {r:Pr} (C:CG w0 HS hv ov O [] wr) (gr:wr.grownBy w' ov.ownBlock) (row:OwnI w0.heap.size ov' (O++[r]) w') (ho:ov'.ownBlock=ov.ownBlock∨ov'.ownBlock=some wr.heap.size) (hr:I64 r.1∧I64 r.2):CG w0 HS hv ov' (O++[r]) [] w':=by
 obtain⟨lo,h1,hd,h2⟩:=C.hands;have K:KpS (fun b=>lo.D b∨wr.heap.size≤b) wr w':=KpS.grown (fun b e=>Or.inl (hd b (Or.inr (Or.inl e)))) gr;refine⟨⟨⟨lo.n,fun b=>lo.D b∨ov'.ownBlock=some b⟩,h1,fun b hb=>?_,h2.wide rfl K fun b hb=>?_⟩,(fun _ h=>by cases h),C.ok,row_other C.hrow C.orow (by decide) gr,row,fun q hq=>?_,C.bel.grown gr C.bel.size (fun t e=>(C.orow.lt t e).1)⟩
 ·rcases hb with hb | hb | hb
  ·exact Or.inl (hd b (Or.inl hb))
  ·exact Or.inr hb
  ·cases hb
 ·rcases hb with hb | hb
  ·exact⟨Or.inl hb,Nat.lt_of_lt_of_le (h2.dl b hb) K.size⟩
  ·refine⟨?_,(row.lt b hb).2⟩;rcases ho with e | e
   ·exact Or.inl (hd b (Or.inr (Or.inl (e▸hb))))
   ·rw[e] at hb;exact Or.inr (Nat.le_of_eq (Option.some.inj hb))
 ·rcases List.mem_append.1 hq with hq | hq
  ·exact C.nums q hq
  ·rw[List.mem_singleton.1 hq];exact hr
theorem hand_at {w0 wr:World} {HS:List HR} {a:Option Addr} {n c:Nat} (h:wr.ownsRow w0.heap.size 51 1 (.slice a n c) HS.length (ptrs HS)) {m:Nat} (hm:m<HS.length):∃b x,a=some ⟨b,0,none⟩∧w0.heap.size≤b∧HS[m]?=some x∧wr.cell? ⟨b,m,none⟩=some (.pointer (some ⟨x.h,0,none⟩)):=by
 have hl:(ptrs HS).length=HS.length:=by unfold ptrs;rw[List.length_map]
 rcases h.2 with⟨_,h0⟩ | ⟨g,cap,cur,e1,hg,_⟩
 ·omega
 ·obtain⟨rfl,hn,_⟩:=Value.slice.inj e1;subst hn;refine⟨g,HS[m],rfl,hg,List.getElem?_eq_getElem hm,?_⟩;rw[h.cellAt m (by omega)];unfold ptrs;rw[List.getElem?_map,List.getElem?_eq_getElem hm];rfl
structure FB (wz:World) (gb:Nat) (EL EW:List CE) (vl vw:Value) (w:World):Prop where
 bel:Below wz.heap.size wz w
 low:wz.heap.size≤gb
 box:w.heap[gb]?=some (.cells #[vl,vw] 73)
 rowL:RowC wz.heap.size vl (EL.map (·.2)) w
 rowW:RowC wz.heap.size vw (EW.map (·.2)) w
 ll:∀b,vl.ownBlock=some b→wz.heap.size≤b
 lw:∀b,vw.ownBlock=some b→wz.heap.size≤b
 ne:∀b,vl.ownBlock=some b→vw.ownBlock≠some b
 chgs:∀p∈EL++EW,FzC (fun b=>wz.heap.size≤b) w p.2 p.1
 ri:RI (chgsOf EL) (chgsOf EW)
 fin:FInv (chgsOf EL)
theorem FB.next {wz w w':World} {gb:Nat} {EL EW:List CE} {vl vw:Value} (F:FB wz gb EL EW vl vw w) (b:Below w.heap.size w w'):FB wz gb EL EW vl vw w':=
 ⟨F.bel.trans (b.mono F.bel.size),F.low,heap_below F.box b lRf,own_below F.rowL b lRf,own_below F.rowW b lRf,F.ll,F.lw,F.ne,fun p hp=>(F.chgs p hp).below b,F.ri,F.fin⟩
theorem own_keep {S:Nat→Prop} {w w':World} {B B' e s n:Nat} {v:Value} {xs:List Value} (h:w.ownsRow B e s v n xs) (K:KpS S w w') (hS:∀b,v.ownBlock=some b→¬S b) (hB:∀b,v.ownBlock=some b→B'≤b):w'.ownsRow B' e s v n xs:=by
 refine⟨h.1,?_⟩;rcases h.2 with hh | ⟨g,cap,cur,rfl,h1,h2,h3⟩
 ·exact Or.inl hh
 ·exact Or.inr ⟨g,cap,cur,rfl,hB g rfl,K.heap h2 (hS g rfl),h3⟩
def FT (gb:Nat) (vl vw:Value) (w:World):Nat→Prop:=fun b=>b=gb∨vl.ownBlock=some b∨vw.ownBlock=some b∨w.heap.size≤b
theorem FB.rb {wz w:World} {gb:Nat} {EL EW:List CE} {vl vw:Value} (F:FB wz gb EL EW vl vw w):RB (FT gb vl vw w) (fun b=>wz.heap.size≤b) w gb EL EW vl vw w:=by
 refine⟨fun b hb=>?_,fun b hb=>Or.inr (Or.inr (Or.inr hb)),KpS.refl _ _,Or.inl rfl,F.box,own_keep F.rowL (KpS.refl (fun _=>False) _) (fun _ _ h=>h) (fun _ _=>Nat.zero_le _),own_keep F.rowW (KpS.refl (fun _=>False) _) (fun _ _ h=>h) (fun _ _=>Nat.zero_le _),fun _ e=>Or.inr (Or.inl e),fun _ e=>Or.inr (Or.inr (Or.inl e)),F.ne,F.chgs⟩;rcases hb with hb | hb | hb | hb
 ·rw[hb];exact F.low
 ·exact F.ll b hb
 ·exact F.lw b hb
 ·exact Nat.le_trans F.bel.size hb
structure FBR (wz:World) (gb:Nat) (lv:Value) (us:List Value) (EL EW:List CE) (vl vw:Value) (w:World):Prop where
 fb:FB wz gb EL EW vl vw w
 row:RowC wz.heap.size lv us w
 ap:∀b,lv.ownBlock=some b→b≠gb∧vl.ownBlock≠some b∧vw.ownBlock≠some b
theorem FBR.take {wz w w':World} {gb:Nat} {lv:Value} {us:List Value} {EL EW:List CE} {vl vw:Value} {c:Chg} {x:Int} (F:FBR wz gb lv us EL EW vl vw w) (hT:RTakeP (FT gb vl vw w) (fun b=>wz.heap.size≤b) w w gb EL EW c x w'):∃EL' EW' vl' vw',FBR wz gb lv us EL' EW' vl' vw' w':=by
 obtain⟨EL',EW',vl',vw',R,I,⟨TR,_⟩,K,_⟩:=hT;have hS:=R.st;have hno:∀b,lv.ownBlock=some b→¬FT gb vl vw w b:=fun b e hb=>by
  have h1:=F.ap b e;have h2:=(F.row.lt b e).2;rcases hb with hb | hb | hb | hb
  ·exact h1.1 hb
  ·exact h1.2.1 hb
  ·exact h1.2.2 hb
  ·omega
 refine⟨EL',EW',vl',vw',⟨F.fb.bel.trans (K.below F.fb.bel.size hS),F.fb.low,R.box,own_keep R.rowL (KpS.refl (fun _=>False) _) (fun _ _ h=>h) (fun b e=>hS b (R.sl b e)),own_keep R.rowW (KpS.refl (fun _=>False) _) (fun _ _ h=>h) (fun b e=>hS b (R.sw b e)),fun b e=>hS b (R.sl b e),fun b e=>hS b (R.sw b e),R.ne,fun p hp=>(R.chgs p hp).kp (K.mono fun b _ h=>hS b h),I,TR.finv F.fb.fin⟩,own_keep F.row K hno (fun b e=>(F.row.lt b e).1),fun b e=>⟨(F.ap b e).1,fun h=>hno b e (R.sl b h),fun h=>hno b e (R.sw b h)⟩⟩
def ChangesP (w:World) (e:Ending) (w':World):Prop:=∃vo es L,e=.returned vo∧RowC w.heap.size vo (es.map (·.2)) w'∧(∀p∈es,IsChgW w' p.2 p.1)∧Inv L∧FInv L∧L.length≤120∧AllO L (chgsOf es)∧es.length=L.length∧Below w.heap.size w w'
def blkOf (n:Nat):Code→Option Code
 | .block m c=>if m=n then some (.block m c) else blkOf n c
 | .seq a b=>match blkOf n a with | some c=>some c | none=>blkOf n b
 | .cond _ a b=>match blkOf n a with | some c=>some c | none=>blkOf n b
 | .loop c=>blkOf n c
 | _=>none
def SwP (cs:Int→Prop):Prop:=∀(w w9:World) (HS:List HR) (hbk n hc obk on oc wb ob m un uc:Nat) (O:List Pr) (y:Pr) (l:List Int) (ua:Option Addr) (x:HR) (z5:Int) (K:Act→World→Prop) (R:Exit→Act→World→Prop),cs z5→Hid (CG w HS (.slice (some ⟨hbk,0,none⟩) n hc) (.slice (some ⟨obk,0,none⟩) on oc) O [wb] w9∧w9.heap[ob]?=some (.cells #[.int .i64 y.1,.int .i64 y.2] 49)∧w9.heap[wb]?=some (.cells #[.int .i64 0,.int .i64 0] 49))→Hid (IsNums w (.slice ua un uc) l)→Hid (HS[m]?=some x)→Hid (HS.length=n∧True)→Hid (I64 y.1∧I64 y.2)→Hid (ob≠wb)→Hid (1≤n∧n≤9)→
 ∀{t1 t2 t3 t4 t6 t7 t8 t9 t14 t15 t16 t17 t18 t19 t20 t21 t22 t23 t24 t25 t26 t27 t28 t29 t30 t31 t32 t33 t34 t35 t36 t37 t38 t39 t40 t41 t42 t43 t44 t45 t46 t47 t48 t49 t50 t51 t52 t53 t54 t55 t56 t57 t58 t59 t60 t61 t62 t63 t64 t66 t67 t68 t69 t70 t71 t72 t73 t74 t75 t76 t77 t78 t79 t80 t81 t82 t83 t84 t85 t86 t87 t88 t89 t90 t91 t92 t93 t94 t95 t96 t97 t98 t99 t100 t101 t102 t103 t104 t105 t106 t107 t108 t109 t110 t111 t112 t113 t114 t115 t116 t117 t118 t119 t120 t121 t122 t123 t124 t125 t126 t127 t128 t129 t130 t131 t132 t133 t134 t135 t136 t137 t138 t139 t140 t141 t142 t143 t144 t145 t146 t147 t148 t149 t150 t151 t152 t153 t154 t155 t156 t157 t158 t159 t160 t161 t162 t163 t164 t165 t166 t167 t168 t169 t170 t171 t172 t173 t174 t175 t176 t177 t178 t179 t180 t181 t182 t183 t184 t185 t186 t187 t188 t189 t190 t191 t192 t193 t194 t195 t196 t197 t198 t199 t200 t201 t202 t203 t204 t205 t206 t207 t208 t209 t210 t211 t212 t213 t214 t215 t216 t217 t218 t219 t220 t221 t222 t223 t224 t225 t226 t227 t228 t229:Value},(∀(u66 u67 u68 u69 u70 u71 u72 u73 u74 u75 u76 u77 u78 u79 u80 u81 u82 u83 u84 u85 u86 u87 u88 u89 u90 u91 u92 u93 u94 u95 u96 u97 u98 u99 u100 u101 u102 u103 u104 u105 u106 u107 u108 u109 u110 u111 u112 u113 u114 u115 u116 u117 u118 u119 u120 u121 u122 u123 u124 u125 u126 u127 u128 u129 u130 u131 u132 u133 u134 u135 u136 u137 u138 u139 u140 u141 u142 u143 u144 u145 u146 u147 u148 u149 u150 u151 u152 u153 u154 u155 u156 u157 u158 u159 u160 u161 u162 u163 u164 u165 u166 u167 u168 u169 u170 u171 u172 u173 u174 u175 u176 u177 u178 u179 u180 u181 u182 u183 u184 u185 u186 u187 u188 u189 u190 u191 u192:Value) (wx:World),(∃(HS':List HR) (r:Pr),Hid (HS'.length=n∧CG w HS' (.slice (some ⟨hbk,0,none⟩) n hc) (.slice (some ⟨obk,0,none⟩) on oc) O [wb] wx∧wx.heap[wb]?=some (.cells #[.int .i64 r.1,.int .i64 r.2] 49)∧I64 r.1∧I64 r.2))→K {tmps:=List.toArray (.int .i64 (n:Int)::t1::t2::t3::t4::.slice (some ⟨hbk,0,none⟩) n hc::t6::t7::t8::t9::.slice ua un uc::.pointer (some ⟨x.h,0,none⟩)::.pointer (some ⟨ob,0,none⟩)::.pointer (some ⟨wb,0,none⟩)::t14::t15::t16::t17::t18::t19::t20::t21::t22::t23::t24::t25::t26::t27::t28::t29::t30::t31::t32::t33::t34::t35::t36::t37::t38::t39::t40::t41::t42::t43::t44::t45::t46::t47::t48::t49::t50::t51::t52::t53::t54::t55::t56::t57::t58::t59::t60::t61::t62::t63::t64::.int .i64 z5::u66::u67::u68::u69::u70::u71::u72::u73::u74::u75::u76::u77::u78::u79::u80::u81::u82::u83::u84::u85::u86::u87::u88::u89::u90::u91::u92::u93::u94::u95::u96::u97::u98::u99::u100::u101::u102::u103::u104::u105::u106::u107::u108::u109::u110::u111::u112::u113::u114::u115::u116::u117::u118::u119::u120::u121::u122::u123::u124::u125::u126::u127::u128::u129::u130::u131::u132::u133::u134::u135::u136::u137::u138::u139::u140::u141::u142::u143::u144::u145::u146::u147::u148::u149::u150::u151::u152::u153::u154::u155::u156::u157::u158::u159::u160::u161::u162::u163::u164::u165::u166::u167::u168::u169::u170::u171::u172::u173::u174::u175::u176::u177::u178::u179::u180::u181::u182::u183::u184::u185::u186::u187::u188::u189::u190::u191::u192::t193::t194::t195::t196::t197::t198::t199::t200::t201::t202::t203::t204::t205::t206::t207::t208::t209::t210::t211::t212::t213::t214::t215::t216::t217::t218::t219::t220::t221::t222::t223::t224::t225::t226::t227::t228::t229::[]),defers:=[]} wx)→
 Code.wp Tryz.prog ((Tryz.f5.body.bind (blkOf 4)).getD .skip) (Exit.then K R) {tmps:=List.toArray (.int .i64 (n:Int)::t1::t2::t3::t4::.slice (some ⟨hbk,0,none⟩) n hc::t6::t7::t8::t9::.slice ua un uc::.pointer (some ⟨x.h,0,none⟩)::.pointer (some ⟨ob,0,none⟩)::.pointer (some ⟨wb,0,none⟩)::t14::t15::t16::t17::t18::t19::t20::t21::t22::t23::t24::t25::t26::t27::t28::t29::t30::t31::t32::t33::t34::t35::t36::t37::t38::t39::t40::t41::t42::t43::t44::t45::t46::t47::t48::t49::t50::t51::t52::t53::t54::t55::t56::t57::t58::t59::t60::t61::t62::t63::t64::.int .i64 z5::t66::t67::t68::t69::t70::t71::t72::t73::t74::t75::t76::t77::t78::t79::t80::t81::t82::t83::t84::t85::t86::t87::t88::t89::t90::t91::t92::t93::t94::t95::t96::t97::t98::t99::t100::t101::t102::t103::t104::t105::t106::t107::t108::t109::t110::t111::t112::t113::t114::t115::t116::t117::t118::t119::t120::t121::t122::t123::t124::t125::t126::t127::t128::t129::t130::t131::t132::t133::t134::t135::t136::t137::t138::t139::t140::t141::t142::t143::t144::t145::t146::t147::t148::t149::t150::t151::t152::t153::t154::t155::t156::t157::t158::t159::t160::t161::t162::t163::t164::t165::t166::t167::t168::t169::t170::t171::t172::t173::t174::t175::t176::t177::t178::t179::t180::t181::t182::t183::t184::t185::t186::t187::t188::t189::t190::t191::t192::t193::t194::t195::t196::t197::t198::t199::t200::t201::t202::t203::t204::t205::t206::t207::t208::t209::t210::t211::t212::t213::t214::t215::t216::t217::t218::t219::t220::t221::t222::t223::t224::t225::t226::t227::t228::t229::[]),defers:=[]} w9
end Go.Proofs.YtamhlgflbacjgaaGreat
