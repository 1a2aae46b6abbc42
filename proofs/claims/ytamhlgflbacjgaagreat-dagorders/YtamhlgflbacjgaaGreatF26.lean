/-
  What is proved: as each theorem says.
  Conditions: as each theorem says.
-/
import Derived.Test.YtamhlgflbacjgaaGreatF18
import Derived.Test.YtamhlgflbacjgaaGreatF00
import Derived.Test.YtamhlgflbacjgaaGreatF25
import Derived.Test.YtamhlgflbacjgaaGreatProg
import Derived.Deep.RegionHeld3
set_option maxRecDepth 100000
set_option maxHeartbeats 16000000
namespace Go.Proofs.YtamhlgflbacjgaaGreat
open Go.RowKit Go.Sort
def kindJ (K:Pr→Option OpM) (a:Pr):Int:=if rootB a=true then 5 else match K a with | none=>0 | some p=>if p.kind=2 then p.val.k else 0
theorem two_boxes (w:World) (a b:Obj):((w.alloc a).alloc b).heap[w.heap.size]?=some a∧((w.alloc a).alloc b).heap[w.heap.size+1]?=some b∧Below w.heap.size w ((w.alloc a).alloc b):=by
 have h1:=heap_alloc_new w a;have s1:(w.alloc a).heap.size=w.heap.size+1:=by simp
 have h2:=heap_alloc_new (w.alloc a) b;have b2:Below (w.alloc a).heap.size (w.alloc a) ((w.alloc a).alloc b):=bAl _ _;rw[s1] at h2;exact⟨heap_below h1 b2 lRf,h2,(bAl _ _).alloc (by simp) _⟩
theorem rKind_any (v:Value) (l:List KE) (r:Pr) (w:World) (hv:IsKn w v l):
 Calls Tryz.prog 90 #[.agg #[v],.agg #[.int .i64 r.1,.int .i64 r.2]] w fun e w'=>e=.returned (.int .i64 (kindJ (lkK (keM l)) r))∧Below w.heap.size w w':=by
 obtain⟨ka,kn,kc,rfl⟩:∃a n c,v=.slice a n c:=by obtain⟨a,c,e,_⟩:=hv;exact⟨_,_,_,e⟩
 obtain⟨zk,hzk⟩:=gNz (kindJ (lkK (keM l)) r:Int);rw[hzk];have HZK:Hid (kindJ (lkK (keM l)) r=zk):=hzk;obtain⟨q0,q1,q2⟩:=two_boxes w (.cells #[.slice ka kn kc] 102) (.cells #[.int .i64 r.1,.int .i64 r.2] 49);have HV:Hid (IsKn w (.slice ka kn kc) l):=hv;clear hv hzk;go_enter Tryz.func90,Tryz.ntmps90
 go_upto_region 1 with fail
 generalize (w.alloc (.cells #[.slice ka kn kc] 102)).alloc (.cells #[.int .i64 r.1,.int .i64 r.2] 49)=W0 at *;have HQ0:=hY3 q0 q1 q2;obtain⟨c0,c1,-⟩:=cLs q1;have E1:=rRoot_any r.1 r.2 W0;change Calls _ _ _ _ (fun e w'=>e=.returned (.bool (rootB r))∧_) at E1;obtain⟨rb,hrb⟩:=gNz (rootB r:Bool);rw[hrb] at E1;have HRB:Hid (rootB r=rb):=hrb;clear q0 q1 q2 hrb;go_wp2_with fail;go_fit E1;rintro e w1 ⟨rfl,b1⟩;have HQ1:=hY3 (heap_below HQ0.out.1 b1 lRf) (heap_below HQ0.out.2.1 b1 lRf) (HQ0.out.2.2.trans (b1.mono HQ0.out.2.2.size));clear b1 HQ0 c0 c1 E1;cases rb with
 | true=>
  have HE:Hid (zk=5):=by show _=_;rw[←HZK.out];unfold kindJ;rw[if_pos HRB.out]
  clear HZK;go_wp2;go_ret;exact⟨by rw[HE.out];rfl,HQ1.out.2.2⟩
 | false=>
  have HE:Hid (zk=match lkK (keM l) r with | none=>0 | some p=>if p.kind=2 then p.val.k else 0):=by show _=_;rw[←HZK.out];unfold kindJ;rw[if_neg (by rw[HRB.out];decide)]
  have d0:w1.cell? ⟨w.heap.size,0,none⟩=some (.slice ka kn kc):=cLo HQ1.out.1 0;obtain⟨d1,d2,-⟩:=cLs HQ1.out.2.1;have E2:=rLook_any (.slice ka kn kc) l r w1 (HV.out.below HQ1.out.2.2);clear HZK HRB;go_wp2_with fail;go_fit E2;rintro e w2 ⟨⟨x,rfl,hx⟩,b2⟩;have HQ2:=hY2 (heap_below HQ1.out.1 b2 lRf) (HQ1.out.2.2.trans (b2.mono HQ1.out.2.2.size));clear b2 HQ1 d0 d1 d2 E2;have d0:w2.cell? ⟨w.heap.size,0,none⟩=some (.slice ka kn kc):=cLo HQ2.out.1 0;rcases hx with⟨rfl,hno⟩ | ⟨k,rfl,hk,hke,hsm⟩
  ·have HF:Hid (zk=0):=by show _=_;rw[HE.out,hno]
   clear hno HE;go_wp2;go_ret;exact⟨by rw[HF.out];rfl,HQ2.out.2⟩
  ·obtain⟨hkl,p,hp⟩:k<l.length∧∃p,(keM l)[k].1=p:=⟨by rw[keM_len] at hk;exact hk,_,rfl⟩
   rw[hp] at hsm;obtain⟨kb,ko,rfl,hkb,hkn,hkc⟩:=kn_cells HV.out hkl;have hop:l[k].1.1=p:=by rw[keM_at] at hp;exact hp
   rw[hop] at hkc;have e0:w2.cell? ⟨kb,ko+k*15,none⟩=some (.int .i64 p.kind):=by rw[HQ2.out.2.cell (p:=⟨kb,ko+k*15,none⟩) hkb];exact hkc 0 (by omega)
   have e7:w2.cell? ⟨kb,ko+k*15+7,none⟩=some (.int .i64 p.val.k):=by rw[HQ2.out.2.cell (p:=⟨kb,ko+k*15+7,none⟩) hkb];exact hkc 7 (by omega)
   have hkn2:(k:Int)<kn:=by omega
   have hk0:¬(k:Int)<0:=by omega
   have hk1:(0:Int)≤k:=by omega
   by_cases hp2:p.kind=2
   ·have HF:Hid (zk=p.val.k):=by show _=_;rw[HE.out,hsm];dsimp only;rw[if_pos hp2]
    rw[hp2] at e0;clear hsm hke hk hkl hp hkc hop HE hp2 hkn hkb;go_wp2;go_ret;exact⟨by rw[HF.out];rfl,HQ2.out.2⟩
   ·have HF:Hid (zk=0):=by show _=_;rw[HE.out,hsm];dsimp only;rw[if_neg hp2]
    have hne:(p.kind !=2)=true:=by simpa using hp2
    clear hsm hke hk hkl hp hkc hop HE hp2 hkn hkb;go_wp2;go_ret;exact⟨by rw[HF.out];rfl,HQ2.out.2⟩
theorem add_zero_at (b j:Nat):(⟨b,0,none⟩:Addr).add j=⟨b,j,none⟩:=by unfold Addr.add;split <;> simp_all
theorem sliced_none (a:Option Addr) (m c s:Nat):sliced a 0 m c s=.slice a m c:=by
 unfold sliced;rw[Nat.zero_mul,Nat.sub_zero,Nat.sub_zero];cases a with
 | none=>simp
 | some x=>simp[Addr.add]
structure CutP (T:TypeId) (k:Nat) (W:World) (v:Value) (n m:Nat) (xs:List Value) (u1 u2:Value):Prop where
 lo:∀w,(Instr.slice T v none (some (.int .i64 (m:Int))) none).run Tryz.prog w=.ok u1 w
 hi:∀w,(Instr.slice T v (some (.int .i64 (m:Int))) none none).run Tryz.prog w=.ok u2 w
 at1:UAt W u1 m (xs.take (m*k))
 at2:UAt W u2 (n - m) (xs.drop (m*k))
theorem OfSize.szOf {T E:TypeId} {k:Nat} (ho:OfSize T E k) (w:World):(sizeOf E).run Tryz.prog w=.ok k w:=by
 obtain⟨ht,hk,hi⟩:=ho;cases hi0:Tryz.prog.info? E with
 | none=>rw[hi0] at hi;cases hi
 | some i0=>
  rw[hi0] at hi;simp only[Option.map_some,Option.some.injEq,Prod.mk.injEq] at hi;obtain⟨_,hs,_⟩:=hi;simp[sizeOf,typeInfo,Sem.run_bind,hi0,hs,go_sem]
theorem cut_gen {T E:TypeId} {k:Nat} (ho:OfSize T E k) {W:World} {B:Nat} {v:Value} {n:Nat} {xs:List Value} (h:W.ownsRow B E k v n xs) (m:Nat) (hm:m≤n):
 ∃u1 u2,CutP T k W v n m xs u1 u2:=by
 have hel:Tryz.prog.elem T=E:=by unfold Program.elem;rw[ho.1]
 have ht:Tryz.prog.underlying T=some (.slice (Tryz.prog.elem T)):=by rw[hel];exact ho.1
 obtain⟨a,n',c,rfl⟩:∃a n' c,v=.slice a n' c:=by
  rcases h.2 with⟨rfl,_⟩ | ⟨g,cap,cur,rfl,_⟩
  ·exact⟨_,_,_,rfl⟩
  ·exact⟨_,_,_,rfl⟩
 have hn:n'=n:=by
  rcases h.2 with⟨e,h0⟩ | ⟨g,cap,cur,e,_⟩
  ·rw[h0];exact(Value.slice.inj e).2.1
  ·exact(Value.slice.inj e).2.1
 subst hn;have hc:n'≤c:=by
  rcases h.2 with⟨e,h0⟩ | ⟨g,cap,cur,e,_,_,hc,_⟩
  ·omega
  ·have:=(Value.slice.inj e).2.2;omega
 have tn:((m:Int)).toNat=m:=Int.toNat_natCast m;refine⟨.slice a m c,.slice (if c=m then a else a.map (·.add (m*k))) (n' - m) (c - m),fun w=>?_,fun w=>?_,?_,?_⟩
 ·rw[run_slice_h (P:=Tryz.prog) (w:=w) T a n' c ht .i64 (m:Int) (by omega) (by omega),hel,ho.szOf,Result.andThen,tn,sliced_none]
 ·rw[run_slice_l (P:=Tryz.prog) (w:=w) T a n' c ht .i64 (m:Int) (by omega) (by omega),hel,ho.szOf,Result.andThen,tn];rfl
 ·rcases own_cut h m hm with⟨e,h0,h1⟩ | ⟨b,c',e,_,h1,_⟩
  ·obtain⟨rfl,rfl,rfl⟩:=Value.slice.inj e;exact Or.inl ⟨by rw[show m=0 by omega],by omega,by rw[h1,List.take_nil]⟩
  ·obtain⟨rfl,_,rfl⟩:=Value.slice.inj e;exact h1
 ·rcases own_cut h m hm with⟨e,h0,h1⟩ | ⟨b,c',e,hc',_,h2⟩
  ·obtain⟨rfl,rfl,rfl⟩:=Value.slice.inj e;exact Or.inl ⟨by rw[show m=0 by omega];rfl,by omega,by rw[h1,List.drop_nil]⟩
  ·obtain⟨rfl,_,rfl⟩:=Value.slice.inj e;by_cases hcm:c=m
   ·have h0:xs.drop (m*k)=[]:=List.drop_eq_nil_of_le (by have:=h.1;have:n'=m:=by omega
                                                         subst this;omega)
    rw[if_pos hcm,h0];exact Or.inr ⟨b,0,_,rfl,fun j y hj=>by simp at hj⟩
   ·rw[if_neg hcm];have e1:(some (⟨b,0,none⟩:Addr)).map (·.add (m*k))=some ⟨b,m*k,none⟩:=by
     rw[Option.map_some,add_zero_at]
    rw[e1];exact h2
structure InsP (T E:TypeId) (W:World) (n m k:Nat) (xs ys:List Value) (u1 u2 v1 v2 v3:Value) (W1 W2 W3:World):Prop where
 a1:(Builtin.append_ #[T,T] T #[.slice none 0 0,u1]).run Tryz.prog W=.ok v1 W1
 a2:(Builtin.append_ #[T,T] T #[v1,.slice (some ⟨W1.heap.size,0,none⟩) 1 1]).run Tryz.prog (W1.alloc (.cells ys.toArray E))=.ok v2 W2
 a3:(Builtin.append_ #[T,T] T #[v2,u2]).run Tryz.prog W2=.ok v3 W3
 b1:Below W.heap.size W W1
 b2:Below W.heap.size W W2
 b3:Below W.heap.size W W3
 row:W3.ownsRow W.heap.size E k v3 (n+1) (xs.take (m*k)++ys++xs.drop (m*k))
theorem ins_gen {T E:TypeId} {k:Nat} (ho:OfSize T E k) {W:World} {n m:Nat} {xs ys:List Value} {u1 u2:Value} (hm:m≤n) (hx:xs.length=n*k) (h1:UAt W u1 m (xs.take (m*k))) (h2:UAt W u2 (n - m) (xs.drop (m*k))) (ox:∀y∈xs,y.oneCell'=true) (hy:ys.length=k) (oy:∀y∈ys,y.oneCell'=true) (hl:n≤999999):
 ∃v1 v2 v3 W1 W2 W3,InsP T E W n m k xs ys u1 u2 v1 v2 v3 W1 W2 W3:=by
 have hmk:m*k≤n*k:=Nat.mul_le_mul_right k hm;have lt:(xs.take (m*k)).length=m*k:=by rw[List.length_take];omega
 have ld:(xs.drop (m*k)).length=(n - m)*k:=by rw[List.length_drop,hx,Nat.sub_mul]
 obtain⟨v1,W1,q1,r1,g1,_⟩:=app_gen ho T W W.heap.size lRf (.slice none 0 0) u1 0 m [] _ (World.ownsRow_nil _ _ _ _) h1 lt (fun y hy=>ox y (List.mem_of_mem_take hy)) (by omega);have b1:Below W.heap.size W W1:=(Below.refl _ _).grown g1 lRf (fun t e=>by cases e);have hA:=heap_alloc_new W1 (.cells ys.toArray E);have bA:Below W1.heap.size W1 (W1.alloc (.cells ys.toArray E)):=bAl _ _;have r1A:=own_below r1 bA lRf;have bwA:=b1.trans (bA.mono b1.size);obtain⟨v2,W2,q2,r2,g2,_⟩:=app_gen ho T _ W.heap.size bwA.size v1 (.slice (some ⟨W1.heap.size,0,none⟩) 1 1) _ 1 _ ys r1A (UAt.box (k:=k) hA hy) (by rw[hy,Nat.one_mul]) oy (by omega);have b2:Below W.heap.size W W2:=bwA.grown g2 bwA.size (fun t e=>(r1A.lt t e).1);obtain⟨v3,W3,q3,r3,g3,_⟩:=app_gen ho T W2 W.heap.size b2.size v2 u2 _ (n - m) _ _ r2 (h2.below b2) ld (fun y hy=>ox y (List.mem_of_mem_drop hy)) (by omega);have b3:Below W.heap.size W W3:=b2.grown g3 b2.size (fun t e=>(r2.lt t e).1);refine⟨v1,v2,v3,W1,W2,W3,q1,q2,q3,b1,b2,b3,?_⟩;rw[show 0+m+1+(n - m)=n+1 by omega,List.nil_append] at r3;exact r3
end Go.Proofs.YtamhlgflbacjgaaGreat
namespace Go.Proofs.YtamhlgflbacjgaaGreat
open Go
section
variable {P : Program} {ops : Array Oper} {Q : Exit → Act → World → Prop} {md : Region.Mode} {S : World → Prop} {late : Nat → Bool}
def wpAnyE (P:Program) (md:Region.Mode) (ops:Array Oper) (Q:Exit→Act→World→Prop) (S:World→Prop) (late:Nat→Bool):Nat→Array Bool→Act→World→Prop
 | 0,listed,a,w=>Region.ready md ops listed=[]∧Q .normal a w
 | fuel+1,listed,a,w=>
  (Region.ready md ops listed=[]→Q .normal a w)∧
  ∀i∈Region.ready md ops listed,wpOp P ops Q i (fun a' w'=>(late i=false→S w')∧wpAnyE P md ops Q S late fuel (listed.setIfInBounds i true) a' w') a w
theorem wpAny_of_early:∀(fuel:Nat) (listed:Array Bool) (a:Act) (w:World),wpAnyE P md ops Q S late fuel listed a w→wpAny P md ops Q fuel listed a w
 | 0,_,_,_,h=>h
 | fuel+1,_,_,_,h=>⟨h.1,fun i hi=>wpOp_mono (fun a' w' h'=>wpAny_of_early fuel _ a' w' h'.2) (h.2 i hi)⟩
def lateWait (md:Region.Mode) (ops:Array Oper) (late:Nat→Bool) (i:Nat):Bool:=
 (List.range ops.size).all fun j=> !late j || (match ops[j]? with | some o=>o.after.toList.any fun e=>Region.binds md e&&e.on==i | none=>true)
theorem lateWait_spec {i:Nat} (h:lateWait md ops late i=true) {j:Nat} {oj:Oper} (hj:ops[j]?=some oj) (hl:late j=true):∃e∈oj.after,Region.binds md e=true∧e.on=i:=by
 have h1:=List.all_eq_true.1 h j (List.mem_range.2 (Array.getElem?_eq_some_iff.1 hj).1);rw[hl,hj] at h1;simp only[Bool.not_true,Bool.false_or] at h1;obtain⟨e,he,h2⟩:=List.any_eq_true.1 h1;have h3:=Bool.and_eq_true_iff.1 h2;exact⟨e,by simpa using he,h3.1,by simpa using h3.2⟩
theorem early_first {i:Nat} {oi:Oper} {v:Value} (hi:ops[i]?=some oi) (hsel:∀(j:Nat) (o:Oper) cs b,ops[j]?=some o→o.op≠.select cs b)
 (hQ:∀c a w,Q (.panic c) (a.put oi.dst v) w→Q (.panic c) a w) (hlt:late i=false) (hw:lateWait md ops late i=true):∀(fuel:Nat) (listed:Array Bool) (a:Act) (w:World),
 (∀j oj,ops[j]?=some oj→j≠i→listed.getD j true=false→(∀e∈oj.after,Region.binds md e=true→e.on≠i)→oi.apart ops oj=true)→
 i∈Region.ready md ops listed→YieldsIf P ops S oi v a→S w→
 wpAnyE P md ops Q S late fuel (listed.setIfInBounds i true) (a.put oi.dst v) w→wpAnyE P md ops Q S late (fuel+1) listed a w:=by
 intro fuel
 induction fuel with
 | zero=>
  intro listed a w _ hr hy hS H;refine⟨fun h=>absurd hr (by rw[h];exact List.not_mem_nil),fun j hj=>?_⟩;by_cases hji:j=i
  ·subst hji;exact hy.wpOp hi hS ⟨fun _=>hS,H⟩
  ·have hm:=ready_mono hj hji;rw[H.1] at hm;exact absurd hm List.not_mem_nil
 | succ fuel ih=>
  intro listed a w hfree hr hy hS H;refine⟨fun h=>absurd hr (by rw[h];exact List.not_mem_nil),fun j hj=>?_⟩;by_cases hji:j=i
  ·subst hji;exact hy.wpOp hi hS ⟨fun _=>hS,H⟩
  ·obtain⟨hun,oj,hoj,hall⟩:=mem_ready.1 hj;have hiu:=(mem_ready.1 hr).1;have hnot:∀e∈oj.after,Region.binds md e=true→e.on≠i:=by
    intro e he hb heq;have h1:=hall e he hb;rw[heq] at h1;rcases Nat.lt_or_ge i listed.size with h' | h'
    ·simp[h'] at hiu h1;rw[hiu] at h1;cases h1
    ·simp[Array.getElem?_eq_none h'] at h1
   have hjl:late j=false:=by
    cases hl:late j with
    | false=>rfl
    | true=>
     obtain⟨e,he,hb,heq⟩:=lateWait_spec hw hoj hl;exact absurd heq (hnot e he hb)
   have h2:=wpOp_putIf hoj (hfree j oj hoj hji hun hnot) (fun cs b=>hsel i oi cs b hi) (fun cs b=>hsel j oj cs b hoj) hQ hy (H.2 j (ready_mono hj hji));refine wpOp_mono (fun a' w' h3=>⟨h3.2.1,ih (listed.setIfInBounds j true) a' w' (fun k ok hk hki hku hno=>?_) (ready_mono hr (Ne.symm hji)) h3.1 (h3.2.1 hjl) ?_⟩) h2
   ·refine hfree k ok hk hki ?_ hno;by_cases hjk:j=k
    ·subst hjk;exact hun
    ·rwa [getD_set_ne true hjk] at hku
   ·rw[Array.setIfInBounds_comm _ _ hji];exact h3.2.2
theorem early_take {i:Nat} {oi:Oper} {v:Value} {fuel:Nat} {listed:Array Bool} {a:Act} {w:World} (hi:ops[i]?=some oi)
 (hs:Region.noSelect ops=true) (hf:Region.free md ops listed i=true) (hr:(Region.ready md ops listed).contains i=true) (hlt:late i=false) (hw:lateWait md ops late i=true)
 (hQ:∀c a w,Q (.panic c) (a.put oi.dst v) w→Q (.panic c) a w) (hy:YieldsIf P ops S oi v a) (hS:S w)
 (h:wpAnyE P md ops Q S late fuel (listed.setIfInBounds i true) (a.put oi.dst v) w):wpAnyE P md ops Q S late (fuel+1) listed a w:=
 early_first hi (Region.noSelect_spec hs) hQ hlt hw fuel listed a w (Region.free_spec hi hf) (by simpa using hr) hy hS h
theorem early_step {i:Nat} {o:Oper} {fuel:Nat} {listed:Array Bool} {a:Act} {w:World} (hr:Region.ready md ops listed=[i]) (ho:ops[i]?=some o)
 (h:∀K':Act→World→Prop,Shut (∀a w,(late i=false→S w)→wpAnyE P md ops Q S late fuel (listed.setIfInBounds i true) a w→K' a w)→if Region.wanted o (yielded ops a.tmps)=true then Oper.wp P o a w K' Q else K' (a.put o.dst undef) w):wpAnyE P md ops Q S late (fuel+1) listed a w:=by
 refine⟨fun h0=>(by rw[hr] at h0;cases h0),fun j hj=>?_⟩;rw[hr] at hj;obtain rfl:=List.mem_singleton.1 hj;exact wpOp_step ho (fun K' hK=>h K' (fun a w hS hW=>hK a w ⟨hS,hW⟩))
theorem early_done {listed:Array Bool} {a:Act} {w:World} (hr:Region.ready md ops listed=[]) (h:Q .normal a w):∀fuel,wpAnyE P md ops Q S late fuel listed a w
 | 0=>⟨hr,h⟩
 | _+1=>⟨fun _=>h,by rw[hr];simp⟩
theorem early_begin {id:Nat} {a:Act} {w:World} (S:World→Prop) (late:Nat→Bool) (hm:P.follows .mixedOrders=true) (h:wpAnyE P .any ops Q S late ops.size (Array.replicate ops.size false) a w.drew):(Code.region id ops true).wp P Q a w:=
 wp_region_any hm (wpAny_of_early _ _ _ _ h)
end
section
variable {P : Program} {ops : Array Oper} {Q : Exit → Act → World → Prop} {md : Region.Mode} {S : World → Prop} {late : Nat → Bool}
theorem ek (i:Nat) {oi:Oper} {v:Value} {fuel:Nat} {listed l':Array Bool} {a a':Act} {w:World} (hi:nth ops.toList i=some oi)
 (h:wpAnyE P md ops Q S late fuel l' a' w) (hy:∀w,S w→(execOp a.eval oi).run P w=.ok (.value v) w:=by intro wz hSw;(try dsimp only at hSw);go_simp;try with_reducible rfl)
 (ha:a.put oi.dst v=a':=by first | (simp only[Act.put,nm];done) | (simp only[Act.put,nm];rfl) | rfl) (hl:listed.setIfInBounds i true=l':=by first | (simp only[nm];done) | (simp only[nm];rfl) | rfl)
 (hs:Region.noSelect ops=true:=by kernel_rfl) (hf:Region.free md ops listed i=true:=by kernel_rfl) (hr:(Region.ready md ops listed).contains i=true:=by kernel_rfl)
 (hlt:late i=false:=by rfl) (hlw:lateWait md ops late i=true:=by kernel_rfl)
 (hQ:∀c a w,Q (.panic c) (a.put oi.dst v) w→Q (.panic c) a w:=by exact fun _ _ _ h=>h) (hw:Region.wanted oi (yielded ops a.tmps)=true:=by rfl) (hS:S w:=by assumption):wpAnyE P md ops Q S late (fuel+1) listed a w:=by
 subst ha hl;exact early_take (by rw[←Array.getElem?_toList,←nth_eq];exact hi) hs hf hr hlt hlw hQ (Or.inl ⟨hw,hy⟩) hS h
theorem es (i:Nat) {o:Oper} {fuel:Nat} {listed:Array Bool} {a:Act} {w:World} (hi:nth ops.toList i=some o)
 (h:∀K':Act→World→Prop,Shut (∀a w,(late i=false→S w)→wpAnyE P md ops Q S late fuel (listed.setIfInBounds i true) a w→K' a w)→if Region.wanted o (yielded ops a.tmps)=true then Oper.wp P o a w K' Q else K' (a.put o.dst undef) w)
 (hr:Region.ready md ops listed=[i]:=by kernel_rfl):wpAnyE P md ops Q S late (fuel+1) listed a w:=
 early_step hr (by rw[←Array.getElem?_toList,←nth_eq];exact hi) h
theorem ts (i:Nat) {o:Oper} {fuel:Nat} {listed:Array Bool} {a:Act} {w:World} (hi:nth ops.toList i=some o)
 (h:∀K':Act→World→Prop,Shut (∀a w,S w→(S w→wpAnyH P md ops Q S fuel (listed.setIfInBounds i true) a w)→K' a w)→if Region.wanted o (yielded ops a.tmps)=true then Oper.wp P o a w K' Q else K' (a.put o.dst undef) w)
 (hr:Region.ready md ops listed=[i]:=by kernel_rfl):wpAnyH P md ops Q S (fuel+1) listed a w:=
 wpAnyH_ready (rs:=[i]) hr (by simp) (AllReadyH.cons (by rw[←Array.getElem?_toList,←nth_eq];exact hi) h AllReadyH.nil)
end
end Go.Proofs.YtamhlgflbacjgaaGreat
