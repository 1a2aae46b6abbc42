/-
  What is proved: as each theorem says.
  Conditions: as each theorem says.
-/
import Derived.Test.YtamhlgflbacjgaaGreatF00
import Derived.Test.YtamhlgflbacjgaaGreatF09
import Derived.Test.YtamhlgflbacjgaaGreatF12
set_option maxRecDepth 100000
set_option maxHeartbeats 16000000
namespace Go.Proofs.YtamhlgflbacjgaaGreat
open Go.RowKit Go.Sort
def refsOf (L:List Chg):List Pr:=L.map (·.ref)
theorem mem_refs {L:List Chg} {r:Pr}:r∈refsOf L↔∃c∈L,c.ref=r:=by unfold refsOf;simp
def Closed (L:List Chg) (hs D:List Pr):Prop:=
 (∀x∈hs,x∈refsOf L→x∈D)∧∀c∈L,c.ref∈D→∀d∈c.deps,d∈refsOf L→d∈D
structure IsBeh (L:List Chg) (hs D:List Pr):Prop where
 cl:Closed L hs D
 least:∀D',Closed L hs D'→∀x∈D,x∈D'
theorem IsBeh.same {L:List Chg} {hs D E:List Pr} (h:IsBeh L hs D) (g:IsBeh L hs E) (x:Pr):x∈D↔x∈E:=⟨h.least _ g.cl x,g.least _ h.cl x⟩
theorem IsBeh.there {L:List Chg} {hs D:List Pr} (h:IsBeh L hs D):∀x∈D,x∈refsOf L:=
 h.least (refsOf L) ⟨fun _ _ h=>h,fun _ _ _ _ _ h=>h⟩
def SeqOk (D:List Pr) (c:Chg):Prop:=(∀s,(c.actor,s)∈D→s<c.seq)∧(1<c.seq→(c.actor,c.seq - 1)∈D)
def NumOk (L:List Chg) (D:List Pr) (c:Chg):Prop:=∀x∈L,x.ref∈D→x.ops≠[]→x.start+(x.ops.length:Int) - 1<c.start
structure Inv (L:List Chg):Prop where
 nd:(refsOf L).Nodup
 ok:∀c∈L,chk c=0
 fit:∀pre c post,L=pre++c::post→(∀d∈c.deps,d∈refsOf pre)∧∃D,IsBeh pre c.deps D∧SeqOk D c∧NumOk pre D c
theorem refs_inj {L:List Chg} (h:(refsOf L).Nodup) {x y:Chg} (hx:x∈L) (hy:y∈L) (e:x.ref=y.ref):x=y:=by
 induction L with
 | nil=>cases hx
 | cons a l ih=>
  have h2:=List.nodup_cons.1 (show(a.ref::refsOf l).Nodup from h);rcases List.mem_cons.1 hx with hx1 | hx1
  ·rcases List.mem_cons.1 hy with hy1 | hy1
   ·exact hx1.trans hy1.symm
   ·exact absurd ((mem_refs (L:=l)).2 ⟨y,hy1,e.symm.trans (by rw[hx1])⟩) h2.1
  ·rcases List.mem_cons.1 hy with hy1 | hy1
   ·exact absurd ((mem_refs (L:=l)).2 ⟨x,hx1,e.trans (by rw[hy1])⟩) h2.1
   ·exact ih h2.2 hx1 hy1
theorem Inv.chain {L:List Chg} (I:Inv L):∀(n:Nat) (pre:List Chg) (y:Chg) (post:List Chg),pre.length≤n→L=pre++y::post→∀x∈L,x.actor=y.actor→x.seq<y.seq→x∈pre∧∀D,IsBeh pre y.deps D→x.ref∈D
 | 0,pre,y,post,hn,hL,x,hx,ha,hs=>by
  have hp:pre=[]:=List.eq_nil_of_length_eq_zero (by omega);subst hp;obtain⟨_,D,hD,hS,_⟩:=I.fit [] y post hL;have hx1:=(chk_few (I.ok x hx)).2.2.2.2.1.1;have:=hD.there _ (hS.2 (by omega));simp[refsOf] at this
 | n+1,pre,y,post,hn,hL,x,hx,ha,hs=>by
  obtain⟨_,D,hD,hS,_⟩:=I.fit pre y post hL;have hx1:=(chk_few (I.ok x hx)).2.2.2.2.1.1;have hz:=hS.2 (by omega);obtain⟨z,hzp,hzr⟩:=mem_refs.1 (hD.there _ hz);have hzL:z∈L:=by rw[hL];exact List.mem_append_left _ hzp
  have ez1:z.actor=y.actor:=congrArg Prod.fst hzr;have ez2:z.seq=y.seq - 1:=congrArg Prod.snd hzr;by_cases he:x.seq=y.seq - 1
  ·have e:x=z:=refs_inj I.nd hx hzL (by
    show(x.actor,x.seq)=(z.actor,z.seq);rw[ha,ez1,he,ez2])
   subst e;exact⟨hzp,fun E hE=>(hD.same hE _).1 (by rw[hzr];exact hz)⟩
  ·obtain⟨p1,p2,hp⟩:=List.append_of_mem hzp;have hL2:L=p1++z::(p2++y::post):=by rw[hL,hp];simp
   have hl:p1.length≤n:=by rw[hp] at hn;simp at hn;omega
   obtain⟨h1,h2⟩:=Inv.chain I n p1 z _ hl hL2 x hx (ha.trans ez1.symm) (by omega);refine⟨by rw[hp];exact List.mem_append_left _ h1,fun E hE=>?_⟩;obtain⟨_,Dz,hDz,_,_⟩:=I.fit p1 z _ hL2;have sub:∀r,r∈refsOf p1→r∈refsOf pre:=fun r hr=>by
    obtain⟨c,hc,e⟩:=mem_refs.1 hr;exact mem_refs.2 ⟨c,by rw[hp];exact List.mem_append_left _ hc,e⟩
   have hzE:z.ref∈E:=(hD.same hE _).1 (by rw[hzr];exact hz);refine hDz.least E ⟨fun d hd hr=>hE.cl.2 z hzp hzE d hd (sub _ hr),fun c hc hcE d hd hr=>hE.cl.2 c (by rw[hp];exact List.mem_append_left _ hc) hcE d hd (sub _ hr)⟩ _ (h2 Dz hDz)
def hasId (c:Chg) (a:Pr):Bool:=decide (a.2=c.actor∧c.start≤a.1∧a.1<c.start+(c.ops.length:Int))
def UniqI (S:List Chg):Prop:=∀x∈S,∀y∈S,∀a,hasId x a=true→hasId y a=true→x=y
theorem Inv.below {L:List Chg} (I:Inv L) {x y:Chg} (hx:x∈L) (hy:y∈L) (ha:x.actor=y.actor) (hs:x.seq<y.seq) (ho:x.ops≠[]):x.start+(x.ops.length:Int) - 1<y.start:=by
 obtain⟨pre,post,hL⟩:=List.append_of_mem hy;obtain⟨_,D,hD,_,hN⟩:=I.fit pre y post hL;obtain⟨h1,h2⟩:=I.chain _ pre y post lRf hL x hx ha hs;exact hN x h1 (h2 D hD) ho
theorem Inv.uniq {L:List Chg} (I:Inv L):UniqI L:=fun x hx y hy a h1 h2=>by
 have g1:=of_decide_eq_true h1;have g2:=of_decide_eq_true h2;have ha:x.actor=y.actor:=g1.1.symm.trans g2.1;have o1:x.ops≠[]:=fun e=>by rw[e] at g1;simp at g1;omega
 have o2:y.ops≠[]:=fun e=>by rw[e] at g2;simp at g2;omega
 rcases Int.lt_trichotomy x.seq y.seq with h | h | h
 ·have:=I.below hx hy ha h o1;omega
 ·exact refs_inj I.nd hx hy (by show(x.actor,x.seq)=(y.actor,y.seq);rw[ha,h])
 ·have:=I.below hy hx ha.symm h o2;omega
theorem UniqI.sub {S T:List Chg} (h:UniqI S) (hs:∀x∈T,x∈S):UniqI T:=fun x hx y hy a h1 h2=>h x (hs x hx) y (hs y hy) a h1 h2
def lkc (S:List Chg) (a:Pr):Option OpM:=(S.find? (hasId · a)).map fun c=>c.ops.getD (a.1 - c.start).toNat noOp
theorem lkc_same {S T:List Chg} (hm:∀x,x∈S↔x∈T) (hu:UniqI S) (a:Pr):lkc S a=lkc T a:=by
 unfold lkc;cases h1:S.find? (hasId · a) with
 | none=>
  have h2:T.find? (hasId · a)=none:=List.find?_eq_none.2 fun x hx=>List.find?_eq_none.1 h1 x ((hm x).2 hx);rw[h2]
 | some c=>
  cases h2:T.find? (hasId · a) with
  | none=>exact absurd (List.find?_some (p:=(hasId · a)) h1) (List.find?_eq_none.1 h2 c ((hm c).1 (List.mem_of_find?_eq_some h1)))
  | some d=>
   have:c=d:=hu c (List.mem_of_find?_eq_some h1) d ((hm d).2 (List.mem_of_find?_eq_some h2)) a (List.find?_some (p:=(hasId · a)) h1) (List.find?_some (p:=(hasId · a)) h2);rw[this]
theorem lkc_cons (c:Chg) (S:List Chg) (a:Pr):lkc (c::S) a=if hasId c a=true then some (c.ops.getD (a.1 - c.start).toNat noOp) else lkc S a:=by
 unfold lkc;rw[List.find?_cons];cases hasId c a <;> simp
def SmallC (c:Chg):Prop:=1≤c.start∧c.start≤1000000∧c.ops.length≤40
theorem lookM_lkc:∀(cs:List Chg) (a:Pr),(∀c∈cs,SmallC c)→0≤a.1→a.1≤1000000→lookM cs a=match lkc cs a with | some o=>(o,a) | none=>(noOp,(0,0))
 | [],a,_,_,_=>rfl
 | c::l,a,hc,h0,h1=>by
  obtain⟨g1,g2,g3⟩:=hc c (List.mem_cons_self ..);have e:wrap64 (a.1 - c.start)=a.1 - c.start:=by
   unfold wrap64;omega
  rw[lkc_cons];unfold lookM;rw[e];by_cases h:a.2=c.actor∧0≤a.1 - c.start∧a.1 - c.start<c.ops.length
  ·rw[if_pos h,if_pos (by unfold hasId;exact decide_eq_true ⟨h.1,by omega,by omega⟩)]
  ·rw[if_neg h,if_neg (by unfold hasId;simp only[decide_eq_true_eq];intro g;exact h ⟨g.1,by omega,by omega⟩)];exact lookM_lkc l a (fun x hx=>hc x (List.mem_cons_of_mem _ hx)) h0 h1
def opsC (c:Chg):List (OpM×Pr):=c.ops.zipIdx.map fun p=>(p.1,(c.start+(p.2:Int),c.actor))
def opsK (S:List Chg):List (OpM×Pr):=S.flatMap opsC
def lkK (K:List (OpM×Pr)) (a:Pr):Option OpM:=(K.find? (fun p=>p.2==a)).map (·.1)
theorem lkK_append (K J:List (OpM×Pr)) (a:Pr):lkK (K++J) a=(lkK K a).or (lkK J a):=by
 unfold lkK;rw[List.find?_append];cases K.find? (fun p=>p.2==a) <;> simp
theorem lkK_zip (act:Int) (a:Pr):∀(ops:List OpM) (st:Int) (n:Nat),Option.map (·.1) (List.find? (fun p=>p.2==a) ((ops.zipIdx n).map fun p=>(p.1,((st+(p.2:Int),act):Pr))))=if a.2=act∧st+n≤a.1∧a.1<st+n+(ops.length:Int) then some (ops.getD (a.1 - (st+n)).toNat noOp) else none
 | [],st,n=>by
  rw[if_neg (by simp)];rfl
 | o::r,st,n=>by
  have ih:=lkK_zip act a r st (n+1);rw[List.zipIdx_cons,List.map_cons,List.find?_cons];by_cases h:((st+(n:Int),act):Pr)=a
  ·have e:(((o,((st+(n:Int),act):Pr)).2==a)=true):=by simpa using h
   rw[e];subst h;rw[if_pos (by simp;omega)];simp
  ·have e:(((o,((st+(n:Int),act):Pr)).2==a)=false):=by simpa using h
   rw[e];simp only;rw[ih];have hne:¬(a.2=act∧a.1=st+n):=fun g=>h (by rw[←g.1,←g.2]);by_cases h2:a.2=act∧st+(n:Int)≤a.1∧a.1<st+n+((o::r).length:Int)
   ·have h3:a.2=act∧st+((n+1:Nat):Int)≤a.1∧a.1<st+((n+1:Nat):Int)+(r.length:Int):=by
     simp at h2 ⊢;refine⟨h2.1,?_,by omega⟩;have:a.1≠st+n:=fun g=>hne ⟨h2.1,g⟩;omega
    rw[if_pos h2,if_pos h3];have e2:(a.1 - (st+n)).toNat=(a.1 - (st+((n+1:Nat):Int))).toNat+1:=by omega
    rw[e2];rfl
   ·rw[if_neg h2,if_neg (fun g=>h2 ⟨g.1,by omega,by simp;omega⟩)]
theorem lkK_opsC (c:Chg) (a:Pr):lkK (opsC c) a=if hasId c a=true then some (c.ops.getD (a.1 - c.start).toNat noOp) else none:=by
 have h:=lkK_zip c.actor a c.ops c.start 0;unfold lkK opsC;unfold hasId;simp only[Int.ofNat_zero,Int.add_zero,decide_eq_true_eq] at h ⊢;exact h
theorem lkK_opsK:∀(S:List Chg) (a:Pr),lkK (opsK S) a=lkc S a
 | [],a=>rfl
 | c::S,a=>by
  rw[show opsK (c::S)=opsC c++opsK S from rfl,lkK_append,lkK_opsC,lkc_cons,lkK_opsK S a];cases hasId c a <;> simp
def elemM (o:OpM) (i:Pr):Pr:=if o.ins=true then i else o.elem
def placeB (p:OpM) (x:Pr) (o:OpM) (i:Pr):Bool:=samePr p.obj o.obj&&(p.key.toList==o.key.toList)&&samePr (elemM p x) (elemM o i)
def mayPred (o:OpM) (i:Pr) (K:Pr→Option OpM) (a:Pr):Bool:=
 match K a with
 | none=>false
 | some p=>if 2<p.kind then false else if placeB p a o i=false then false else !(decide (o.kind=4)&&(!decide (p.kind=1) || !decide (p.val.k=4)))
def kindM (o:OpM) (K:Pr→Option OpM):Option Int:=
 if rootB o.obj=true then some 5 else match K o.obj with
  | none=>none
  | some p=>if p.kind=2 then some p.val.k else none
def keyM (o:OpM) (kd:Int):Bool:= !((decide (kd=5)&&o.key.toList.isEmpty) || (decide (kd=6)&& !o.key.toList.isEmpty))
def elM (o:OpM) (K:Pr→Option OpM):Bool:=rootB o.elem || match K o.elem with
 | none=>false
 | some p=>p.ins&&samePr p.obj o.obj
def mayM (o:OpM) (i:Pr) (K:Pr→Option OpM):Bool:=
 match kindM o K with
 | none=>false
 | some kd=>keyM o kd&&elM o K&&o.preds.all (mayPred o i K)
theorem chkOp_facts {o:OpM} (h:chkOp o=0):(1≤o.kind∧o.kind≤4)∧hasIdsB o=true∧(o.ins=true→o.preds=[])∧mayHaveB o.kind o.val=true:=by
 unfold chkOp at h;by_cases h1:(!fromB o.kind 4 || !hasIdsB o)=true
 ·rw[if_pos h1] at h;cases h
 rw[if_neg h1] at h;by_cases h2:20<o.key.size∨12<o.preds.length
 ·rw[if_pos h2] at h;cases h
 rw[if_neg h2] at h;by_cases h3:risesB o.preds=false
 ·rw[if_pos h3] at h;cases h
 rw[if_neg h3] at h;by_cases h4:(!onePlaceB o || (o.ins&& !mayInsertB o))=true
 ·rw[if_pos h4] at h;cases h
 rw[if_neg h4] at h;by_cases h5:(!okB o.val || !mayHaveB o.kind o.val)=true
 ·rw[if_pos h5] at h;cases h
 clear h;simp only[Bool.or_eq_true,Bool.and_eq_true,Bool.not_eq_true',not_or,not_and,Bool.not_eq_false] at h1 h4 h5;refine⟨of_decide_eq_true h1.1,h1.2,fun hi=>?_,h5.2⟩;have h6:=h4.2 hi;unfold mayInsertB at h6;simp only[Bool.and_eq_true] at h6;exact List.isEmpty_iff.1 h6.2
def Looks (cs:List Chg) (K:Pr→Option OpM) (a:Pr):Prop:=lookM cs a=match K a with | some p=>(p,a) | none=>(noOp,(0,0))
theorem key_fits {cs:List Chg} {K:Pr→Option OpM} {o:OpM} (hk:∀a p,K a=some p→chkOp p=0) (hl:Looks cs K o.obj):keyFitsM cs o=match kindM o K with | none=>false | some kd=>keyM o kd:=by
 unfold keyFitsM kindM objKindM;by_cases hr:rootB o.obj=true
 ·rw[if_pos hr,if_pos hr];simp only;unfold keyM;cases h:o.key.toList <;> simp
 ·rw[if_neg hr,if_neg hr];unfold Looks at hl;cases hK:K o.obj with
  | none=>
   rw[hK] at hl;rw[hl];simp[noOp]
  | some p=>
   rw[hK] at hl;rw[hl];simp only;by_cases h2:p.kind=2
   ·rw[if_pos h2,if_pos h2];have h3:=(chkOp_facts (hk _ _ hK)).2.2.2;unfold mayHaveB at h3;rw[if_neg (by omega),if_pos h2] at h3;simp only[Bool.and_eq_true,decide_eq_true_eq] at h3;simp only;unfold keyM;rcases h3.1 with e | e
    ·rw[e];cases h:o.key.toList <;> simp
    ·rw[e];cases h:o.key.toList <;> simp
   ·rw[if_neg h2,if_neg h2];simp
theorem el_fits {cs:List Chg} {K:Pr→Option OpM} {o:OpM} (hl:Looks cs K o.elem):elemFitsM cs o=elM o K:=by
 unfold elemFitsM elM;unfold Looks at hl;cases hK:K o.elem with
 | none=>
  rw[hK] at hl;rw[hl];simp[noOp]
 | some p=>
  rw[hK] at hl;rw[hl]
theorem pred_fits {cs:List Chg} {K:Pr→Option OpM} {o:OpM} {i a:Pr} (hk:∀a p,K a=some p→chkOp p=0) (hi:o.ins=false) (hl:Looks cs K a):predFitsM o (lookM cs a).1 (lookM cs a).2=mayPred o i K a:=by
 unfold Looks at hl;unfold mayPred predFitsM;cases hK:K a with
 | none=>
  rw[hK] at hl;rw[hl];simp[noOp,hasValueM]
 | some p=>
  rw[hK] at hl;rw[hl];simp only;have hkp:=(chkOp_facts (hk _ _ hK)).1;have e1:elemM o i=o.elem:=by unfold elemM;rw[hi];rfl
  have e2:placeM p a=elemM p a:=rfl;unfold placeB;rw[e1,e2];unfold isCountM hasValueM;by_cases h1:p.kind=1
  ·rw[h1];by_cases h4:o.kind=4 <;> by_cases h5:p.val.k=4 <;> cases samePr p.obj o.obj <;> cases (p.key.toList==o.key.toList) <;> cases samePr (elemM p a) o.elem <;> simp[h4,h5]
  ·by_cases h2:p.kind=2
   ·rw[h2];by_cases h4:o.kind=4 <;> cases samePr p.obj o.obj <;> cases (p.key.toList==o.key.toList) <;> cases samePr (elemM p a) o.elem <;> simp[h4]
   ·have h3:2<p.kind:=by omega
    rw[if_pos h3];have e3:(p.kind==1)=false:=by rw[beq_eq_false_iff_ne];exact h1
    have e4:(p.kind==2)=false:=by rw[beq_eq_false_iff_ne];exact h2
    rw[e3,e4];simp
theorem may_fits {cs:List Chg} {K:Pr→Option OpM} {o:OpM} {i:Pr} (ho:chkOp o=0) (hk:∀a p,K a=some p→chkOp p=0) (h1:Looks cs K o.obj) (h2:Looks cs K o.elem) (h3:∀a∈o.preds,Looks cs K a):opFitsM cs o=mayM o i K:=by
 unfold opFitsM mayM;rw[key_fits hk h1,el_fits h2];have hp:(!(o.preds.any fun a=> !predFitsM o (lookM cs a).1 (lookM cs a).2))=o.preds.all (mayPred o i K):=by
  rw[List.not_any_eq_all_not];cases hpr:o.preds with
  | nil=>rfl
  | cons x r=>
   have hi:o.ins=false:=by
    cases h:o.ins with
    | false=>rfl
    | true=>have:=(chkOp_facts ho).2.2.1 h;rw[hpr] at this;cases this
   rw[←hpr];apply Bool.eq_iff_iff.2;simp only[List.all_eq_true,Bool.not_not];constructor
   ·intro h a ha;rw[←pred_fits hk hi (h3 a ha)];exact h a ha
   ·intro h a ha;rw[pred_fits (i:=i) hk hi (h3 a ha)];exact h a ha
 rw[hp];cases kindM o K <;> simp
def seqM (cs:List Chg) (act:Int):Int:=cs.foldl (fun m c=>if c.actor=act then (if m≤c.seq then c.seq else m) else m) 0
def numM (cs:List Chg):Int:=cs.foldl (fun m c=>if c.ops.length=0 then m else if m≤c.start+(c.ops.length:Int) - 1 then c.start+(c.ops.length:Int) - 1 else m) 0
theorem seqM_snoc (cs:List Chg) (c:Chg) (act:Int):seqM (cs++[c]) act=if c.actor=act then (if seqM cs act≤c.seq then c.seq else seqM cs act) else seqM cs act:=by
 unfold seqM;rw[List.foldl_append];rfl
theorem numM_snoc (cs:List Chg) (c:Chg):numM (cs++[c])=if c.ops.length=0 then numM cs else if numM cs≤c.start+(c.ops.length:Int) - 1 then c.start+(c.ops.length:Int) - 1 else numM cs:=by
 unfold numM;rw[List.foldl_append];rfl
theorem seqM_facts (act:Int):∀(cs:List Chg) (m:Int),m≤cs.foldl (fun m c=>if c.actor=act then (if m≤c.seq then c.seq else m) else m) m∧(∀c∈cs,c.actor=act→c.seq≤cs.foldl (fun m c=>if c.actor=act then (if m≤c.seq then c.seq else m) else m) m)∧(cs.foldl (fun m c=>if c.actor=act then (if m≤c.seq then c.seq else m) else m) m=m∨∃c∈cs,c.actor=act∧c.seq=cs.foldl (fun m c=>if c.actor=act then (if m≤c.seq then c.seq else m) else m) m)
 | [],m=>⟨Int.le_refl _,(fun _ h=>by cases h),Or.inl rfl⟩
 | c::l,m=>by
  have ih:=seqM_facts act l (if c.actor=act then (if m≤c.seq then c.seq else m) else m);rw[List.foldl_cons];obtain⟨h1,h2,h3⟩:=ih;have hm:m≤(if c.actor=act then (if m≤c.seq then c.seq else m) else m):=by split <;> (try split) <;> omega
  refine⟨Int.le_trans hm h1,fun x hx ha=>?_,?_⟩
  ·rcases List.mem_cons.1 hx with rfl | hx
   ·refine Int.le_trans ?_ h1;rw[if_pos ha];split <;> omega
   ·exact h2 x hx ha
  ·rcases h3 with h3 | ⟨x,hx,ha,e⟩
   ·rw[h3];by_cases ha:c.actor=act
    ·rw[if_pos ha];by_cases hl:m≤c.seq
     ·rw[if_pos hl];exact Or.inr ⟨c,List.mem_cons_self ..,ha,rfl⟩
     ·rw[if_neg hl];exact Or.inl rfl
    ·rw[if_neg ha];exact Or.inl rfl
   ·exact Or.inr ⟨x,List.mem_cons_of_mem _ hx,ha,e⟩
theorem numM_facts:∀(cs:List Chg) (m b:Int),cs.foldl (fun m c=>if c.ops.length=0 then m else if m≤c.start+(c.ops.length:Int) - 1 then c.start+(c.ops.length:Int) - 1 else m) m<b↔m<b∧∀c∈cs,c.ops≠[]→c.start+(c.ops.length:Int) - 1<b
 | [],m,b=>by simp
 | c::l,m,b=>by
  rw[List.foldl_cons,numM_facts l _ b];constructor
  ·rintro⟨h1,h2⟩;by_cases h0:c.ops.length=0
   ·rw[if_pos h0] at h1;refine⟨h1,fun x hx ho=>?_⟩;rcases List.mem_cons.1 hx with rfl | hx
    ·exact absurd (List.eq_nil_of_length_eq_zero h0) ho
    ·exact h2 x hx ho
   ·rw[if_neg h0] at h1;by_cases hl:m≤c.start+(c.ops.length:Int) - 1
    ·rw[if_pos hl] at h1;refine⟨by omega,fun x hx ho=>?_⟩;rcases List.mem_cons.1 hx with rfl | hx
     ·exact h1
     ·exact h2 x hx ho
    ·rw[if_neg hl] at h1;refine⟨h1,fun x hx ho=>?_⟩;rcases List.mem_cons.1 hx with rfl | hx
     ·omega
     ·exact h2 x hx ho
  ·rintro⟨h1,h2⟩;refine⟨?_,fun x hx ho=>h2 x (List.mem_cons_of_mem _ hx) ho⟩;by_cases h0:c.ops.length=0
   ·rw[if_pos h0];exact h1
   ·rw[if_neg h0];have:=h2 c (List.mem_cons_self ..) (fun e=>h0 (by rw[e];rfl));split <;> omega
def cutC (c:Chg) (i:Nat):Chg:=⟨c.actor,c.seq,c.start,c.deps,c.ops.take i⟩
def subL (L:List Chg) (D:List Pr):List Chg:=L.filter fun x=>decide (x.ref∈D)
theorem mem_subL {L:List Chg} {D:List Pr} {x:Chg}:x∈subL L D↔x∈L∧x.ref∈D:=by unfold subL;simp
def Fit (L:List Chg) (D:List Pr) (c:Chg):Prop:=
 SeqOk D c∧NumOk L D c∧∀i (h:i<c.ops.length),mayM c.ops[i] (c.start+(i:Int),c.actor) (lkc (subL L D++[cutC c i]))=true
theorem seq_iff {L:List Chg} {D:List Pr} {cs:List Chg} {c:Chg} (hL:∀x∈L,1≤x.seq) (hD:∀x∈D,x∈refsOf L) (hm:∀x,x∈cs↔x∈L∧x.ref∈D) (hs:1≤c.seq):seqM cs c.actor=c.seq - 1↔SeqOk D c:=by
 obtain⟨h0,h1,h2⟩:=seqM_facts c.actor cs 0;have e:∀z,z=seqM cs c.actor→z=seqM cs c.actor:=fun _ h=>h;change 0≤seqM cs c.actor at h0;change ∀x∈cs,x.actor=c.actor→x.seq≤seqM cs c.actor at h1;change seqM cs c.actor=0∨∃x∈cs,x.actor=c.actor∧x.seq=seqM cs c.actor at h2;clear e;have inD:∀s,(c.actor,s)∈D→∃x∈cs,x.actor=c.actor∧x.seq=s:=fun s h=>by
  obtain⟨x,hx,hr⟩:=mem_refs.1 (hD _ h);have e1:x.actor=c.actor:=congrArg Prod.fst hr;have e2:x.seq=s:=congrArg Prod.snd hr;exact⟨x,(hm x).2 ⟨hx,by rw[hr];exact h⟩,e1,e2⟩
 constructor
 ·intro h;refine⟨fun s hsD=>?_,fun h1s=>?_⟩
  ·obtain⟨x,hx,ha,rfl⟩:=inD s hsD;have:=h1 x hx ha;omega
  ·rcases h2 with h2 | ⟨x,hx,ha,e⟩
   ·omega
   ·have hr:x.ref=(c.actor,c.seq - 1):=by
     show(x.actor,x.seq)=_;rw[ha,e,h]
    rw[←hr];exact((hm x).1 hx).2
 ·rintro⟨g1,g2⟩;rcases h2 with h2 | ⟨x,hx,ha,e⟩
  ·by_cases h3:1<c.seq
   ·obtain⟨x,hx,ha,e⟩:=inD _ (g2 h3);have:=h1 x hx ha;omega
   ·omega
  ·have hr:(c.actor,x.seq)∈D:=by
    have:=((hm x).1 hx).2;rw[←ha];exact this
   have h5:=g1 _ hr;have h6:=hL x ((hm x).1 hx).1;obtain⟨y,hy,hya,hye⟩:=inD _ (g2 (by omega));have:=h1 y hy hya;omega
theorem num_iff {L:List Chg} {D:List Pr} {cs:List Chg} {c:Chg} (hm:∀x,x∈cs↔x∈L∧x.ref∈D) (hs:1≤c.start):numM cs<c.start↔NumOk L D c:=by
 have h:=numM_facts cs 0 c.start;change numM cs<c.start↔_ at h;rw[h];constructor
 ·rintro⟨_,h2⟩ x hx hr ho;exact h2 x ((hm x).2 ⟨hx,hr⟩) ho
 ·intro h2;exact⟨by omega,fun x hx ho=>h2 x ((hm x).1 hx).1 ((hm x).1 hx).2 ho⟩
theorem small_of {c:Chg} (h:chk c=0):SmallC c:=⟨(chk_few h).2.2.2.2.2.1,(chk_few h).2.2.2.2.2.2,(chk_few h).2.1⟩
theorem cut_small {c:Chg} (h:chk c=0) (i:Nat):SmallC (cutC c i):=by
 obtain⟨a,b,d⟩:=small_of h;exact⟨a,b,by show(c.ops.take i).length≤40;rw[List.length_take];omega⟩
theorem uniq_cut {L:List Chg} {D:List Pr} {c:Chg} (I:Inv L) (hN:NumOk L D c) (i:Nat):UniqI (subL L D++[cutC c i]):=by
 have key:∀x∈subL L D,∀a,hasId x a=true→hasId (cutC c i) a=true→False:=fun x hx a h1 h2=>by
  have g1:=of_decide_eq_true h1;have g2:=of_decide_eq_true h2;obtain⟨hxL,hxD⟩:=mem_subL.1 hx;have:=hN x hxL hxD (fun e=>by rw[e] at g1;simp at g1;omega);have g3:c.start≤a.1:=g2.2.1;omega
 intro x hx y hy a h1 h2;rcases List.mem_append.1 hx with hx1 | hx1 <;> rcases List.mem_append.1 hy with hy1 | hy1
 ·exact I.uniq x (mem_subL.1 hx1).1 y (mem_subL.1 hy1).1 a h1 h2
 ·rw[List.mem_singleton.1 hy1] at h2;exact(key x hx1 a h1 h2).elim
 ·rw[List.mem_singleton.1 hx1] at h1;exact(key y hy1 a h2 h1).elim
 ·rw[List.mem_singleton.1 hx1,List.mem_singleton.1 hy1]
theorem chk_op {c:Chg} (h:chk c=0):∀o∈c.ops,chkOp o=0:=by
 unfold chk at h;by_cases h1:chkHead c=0
 ·rw[if_pos h1] at h;exact chkOps_every h
 ·rw[if_neg h1] at h;exact absurd h h1
theorem lkc_mem {S:List Chg} {a:Pr} {o:OpM} (h:lkc S a=some o):∃c∈S,o∈c.ops:=by
 unfold lkc at h;obtain⟨c,hc,e⟩:=Option.map_eq_some_iff.1 h;have h1:=List.find?_some (p:=(hasId · a)) hc;have h2:=of_decide_eq_true h1;refine⟨c,List.mem_of_find?_eq_some hc,?_⟩;have hlt:(a.1 - c.start).toNat<c.ops.length:=by omega
 rw[←e,List.getD_eq_getElem?_getD,List.getElem?_eq_getElem hlt];exact List.getElem_mem hlt
theorem ids_small {o:OpM} (h:chkOp o=0):(0≤o.obj.1∧o.obj.1≤1000000)∧(0≤o.elem.1∧o.elem.1≤1000000)∧∀a∈o.preds,0≤a.1∧a.1≤1000000:=by
 have h2:=(chkOp_facts h).2.1;unfold hasIdsB at h2;simp only[Bool.and_eq_true,List.all_eq_true] at h2;have key:∀n a,idOkB n a=true→0≤n∧n≤1000000:=fun n a h=>by
  unfold idOkB at h;simp only[Bool.or_eq_true,decide_eq_true_eq] at h;omega
 exact⟨key _ _ h2.2.1,key _ _ h2.2.2,fun a ha=>key _ _ (h2.1 a ha).2⟩
theorem fits_iff {L:List Chg} {D:List Pr} {cs:List Chg} {c:Chg} (I:Inv L) (hc:chk c=0) (hD:∀x∈D,x∈refsOf L) (hm:∀x,x∈cs↔x∈L∧x.ref∈D):
 (seqM cs c.actor=c.seq - 1∧numM cs<c.start∧∀i (h:i<c.ops.length),opFitsM (cs++[cutC c i]) c.ops[i]=true)↔Fit L D c:=by
 have hf:=chk_few hc;have hsq:∀x∈L,1≤x.seq:=fun x hx=>(chk_few (I.ok x hx)).2.2.2.2.1.1;unfold Fit;rw[seq_iff hsq hD hm hf.2.2.2.2.1.1,num_iff hm hf.2.2.2.2.2.1];constructor
 ·rintro⟨h1,h2,h3⟩;refine⟨h1,h2,fun i hi=>?_⟩;rw[←h3 i hi];symm;exact op_eq h2 i hi
 ·rintro⟨h1,h2,h3⟩;refine⟨h1,h2,fun i hi=>?_⟩;rw[←h3 i hi];exact op_eq h2 i hi
 where
 op_eq (h2:NumOk L D c) (i:Nat) (hi:i<c.ops.length):opFitsM (cs++[cutC c i]) c.ops[i]=mayM c.ops[i] (c.start+(i:Int),c.actor) (lkc (subL L D++[cutC c i])):=by
  have ho:=chk_op hc _ (List.getElem_mem hi);obtain⟨g1,g2,g3⟩:=ids_small ho;have hsm:∀x∈cs++[cutC c i],SmallC x:=fun x hx=>by
   rcases List.mem_append.1 hx with hx | hx
   ·exact small_of (I.ok x ((hm x).1 hx).1)
   ·rw[List.mem_singleton.1 hx];exact cut_small hc i
  have hmm:∀x,x∈subL L D++[cutC c i]↔x∈cs++[cutC c i]:=fun x=>by
   rw[List.mem_append,List.mem_append,mem_subL,hm x]
  have hl:∀a:Pr,0≤a.1→a.1≤1000000→Looks (cs++[cutC c i]) (lkc (subL L D++[cutC c i])) a:=fun a h0 h9=>by
   unfold Looks;rw[lookM_lkc _ a hsm h0 h9,lkc_same hmm (uniq_cut I h2 i) a];all_goals (cases lkc (cs++[cutC c i]) a <;> rfl)
  refine may_fits ho (fun a p hp=>?_) (hl _ g1.1 g1.2) (hl _ g2.1 g2.2) (fun a ha=>hl a (g3 a ha).1 (g3 a ha).2);obtain⟨x,hx,hpx⟩:=lkc_mem hp;rcases List.mem_append.1 hx with hx | hx
  ·exact chk_op (I.ok x (mem_subL.1 hx).1) p hpx
  ·rw[List.mem_singleton.1 hx] at hpx;exact chk_op hc p (List.mem_of_mem_take hpx)
theorem Inv.nil:Inv []:=⟨List.nodup_nil,(fun _ h=>by cases h),fun pre c post h=>by simp at h⟩
theorem Inv.snoc {L:List Chg} {D:List Pr} {c:Chg} (I:Inv L) (hc:chk c=0) (hn:c.ref∉refsOf L) (hd:∀d∈c.deps,d∈refsOf L) (hB:IsBeh L c.deps D) (hF:Fit L D c):Inv (L++[c]):=by
 refine⟨?_,fun x hx=>?_,fun pre x post h=>?_⟩
 ·unfold refsOf;rw[List.map_append,List.nodup_append];refine⟨I.nd,by simp,fun a ha b hb e=>?_⟩;simp at hb;subst e;subst hb;exact hn ha
 ·rcases List.mem_append.1 hx with hx | hx
  ·exact I.ok x hx
  ·rw[List.mem_singleton.1 hx];exact hc
 ·rcases List.eq_nil_or_concat post with rfl | ⟨q,z,rfl⟩
  ·obtain⟨rfl,e⟩:=List.append_inj' h rfl;obtain rfl:c=x:=by simpa using e
   exact⟨hd,D,hB,hF.1,hF.2.1⟩
  ·have e:L++[c]=(pre++x::q)++[z]:=by rw[h];simp
   obtain⟨rfl,_⟩:=List.append_inj' e rfl;exact I.fit pre x q rfl
theorem Fit.same {L:List Chg} {D E:List Pr} {c:Chg} (h:Fit L D c) (hm:∀x,x∈D↔x∈E):Fit L E c:=by
 have e:subL L D=subL L E:=by
  unfold subL;congr 1;funext x;exact decide_eq_decide.2 (hm _)
 obtain⟨h1,h2,h3⟩:=h;refine⟨⟨fun s hs=>h1.1 s ((hm _).2 hs),fun hs=>(hm _).1 (h1.2 hs)⟩,fun x hx hr ho=>h2 x hx ((hm _).2 hr) ho,fun i hi=>?_⟩;rw[←e];exact h3 i hi
theorem addR_pre (D:List Pr):∀rs:List Pr,D <+: addR D rs:=fun rs=>by
 unfold addR
 induction rs generalizing D with
 | nil=>exact List.prefix_refl _
 | cons r l ih=>
  rw[List.foldl_cons];by_cases h:r∈D
  ·rw[if_pos h];exact ih D
  ·rw[if_neg h];exact(List.prefix_append D [r]).trans (ih (D++[r]))
theorem behS_step (dep:Pr→List Pr) (hs:List Pr) (k:Nat):behS dep hs k <+: behS dep hs (k+1):=addR_pre _ _
theorem behS_pre (dep:Pr→List Pr) (hs:List Pr) {j k:Nat} (h:j≤k):behS dep hs j <+: behS dep hs k:=by
 induction k with
 | zero=>obtain rfl:j=0:=by omega
         exact List.prefix_refl _
 | succ k ih=>
  by_cases e:j=k+1
  ·rw[e];exact List.prefix_refl _
  ·exact(ih (by omega)).trans (behS_step dep hs k)
def chgsOf (E:List CE):List Chg:=E.map (·.1)
theorem refs_chgs (E:List CE):refsOf (chgsOf E)=E.map (·.1.ref):=by unfold refsOf chgsOf;simp[Function.comp_def]
theorem mem_chgs {E:List CE} {c:Chg}:c∈chgsOf E↔∃p∈E,p.1=c:=by unfold chgsOf;simp
theorem dep_of {E:List CE} (hn:(E.map (·.1.ref)).Nodup) {c:Chg} (hc:c∈chgsOf E):depE E c.ref=c.deps:=by
 obtain⟨p,hp,rfl⟩:=mem_chgs.1 hc;obtain⟨q,hq,e1,_,e2⟩:=ent_of (E:=E) (r:=p.1.ref) (List.mem_map.2 ⟨p,hp,rfl⟩);have:q.1=p.1:=refs_inj (L:=chgsOf E) (by rw[refs_chgs];exact hn) (mem_chgs.2 ⟨q,hq,rfl⟩) hc e1;rw[e2,this]
theorem dep_none {E:List CE} (h:∀p∈E,chk p.1=0):depE E (0,0)=[]:=by
 unfold depE;have:(E.find? fun p=>p.1.ref==(0,0))=none:=List.find?_eq_none.2 fun p hp e=>by
  have h1:=(chk_few (h p hp)).2.2.2.1.1;have h2:p.1.ref=(0,0):=by simpa using e
  have h3:p.1.actor=0:=congrArg Prod.fst h2;omega
 rw[this];rfl
theorem behS_isBeh {E:List CE} (hC:Clo E) (hok:∀p∈E,chk p.1=0) (hn:(E.map (·.1.ref)).Nodup) {hs D:List Pr} {k:Nat} (hD:D=behS (depE E) hs k) (hk:k=D.length) (hin:∀x∈hs,x∈E.map (·.1.ref)):IsBeh (chgsOf E) hs D:=by
 have hdep:∀c∈chgsOf E,∀d∈c.deps,d∈refsOf (chgsOf E):=fun c hc d hd=>by
  obtain⟨p,hp,rfl⟩:=mem_chgs.1 hc;rw[refs_chgs];exact clo_all hC p hp d hd
 have least:∀D',Closed (chgsOf E) hs D'→∀j,∀x∈behS (depE E) hs j,x∈D'∧x∈refsOf (chgsOf E):=by
  intro D' hcl j
  induction j with
  | zero=>
   intro x hx;rcases(addR_mem [] hs x).1 hx with h | h
   ·cases h
   ·have:=hin x h;rw[←refs_chgs] at this;exact⟨hcl.1 x h this,this⟩
  | succ j ih=>
   intro x hx;rcases(addR_mem _ _ x).1 hx with h | h
   ·exact ih x h
   ·by_cases hj:j<(behS (depE E) hs j).length
    ·have e:(behS (depE E) hs j).getD j (0,0)=(behS (depE E) hs j)[j]:=by rw[List.getD_eq_getElem?_getD,List.getElem?_eq_getElem hj];rfl
     rw[e] at h;obtain⟨h1,h2⟩:=ih _ (List.getElem_mem hj);obtain⟨c,hc,hr⟩:=mem_refs.1 h2;rw[←hr,dep_of hn hc] at h;have h3:=hdep c hc x h;exact⟨hcl.2 c hc (by rw[hr];exact h1) x h h3,h3⟩
    ·have e:(behS (depE E) hs j).getD j (0,0)=(0,0):=by rw[List.getD_eq_getElem?_getD,List.getElem?_eq_none (by omega)];rfl
     rw[e,dep_none hok] at h;cases h
 refine⟨⟨fun x hx _=>?_,fun c hc hcD d hd _=>?_⟩,fun D' hcl x hx=>?_⟩
 ·rw[hD];exact(behS_pre (depE E) hs (Nat.zero_le k)).subset ((addR_mem [] hs x).2 (Or.inr hx))
 ·obtain⟨i,hi,e⟩:=List.getElem_of_mem hcD;have hik:i<k:=by omega
  have hpi:i<(behS (depE E) hs i).length∨¬i<(behS (depE E) hs i).length:=Nat.lt_or_ge i _ |>.imp id (by omega);rcases hpi with hpi | hpi
  ·have e2:(behS (depE E) hs i).getD i (0,0)=c.ref:=by
    rw[List.getD_eq_getElem?_getD,List.getElem?_eq_getElem hpi];have:=(behS_pre (depE E) hs (Nat.le_of_lt hik)).getElem hpi;simp only[Option.getD_some];rw[this,←e];simp only[hD]
   have h3:d∈behS (depE E) hs (i+1):=(addR_mem _ _ d).2 (Or.inr (by rw[e2,dep_of hn hc];exact hd));rw[hD];exact(behS_pre (depE E) hs (show i+1≤k by omega)).subset h3
  ·-- what was gathered by then did not grow any more
   exfalso;have stuck:∀m,behS (depE E) hs (i+m)=behS (depE E) hs i:=by
    intro m
    induction m with
    | zero=>rfl
    | succ m ih=>
     show addR (behS (depE E) hs (i+m)) (depE E ((behS (depE E) hs (i+m)).getD (i+m) (0,0)))=_;rw[ih];have e3:(behS (depE E) hs i).getD (i+m) (0,0)=(0,0):=by rw[List.getD_eq_getElem?_getD,List.getElem?_eq_none (by omega)];rfl
     rw[e3,dep_none hok];rfl
   have:=stuck (k - i);rw[show i+(k - i)=k by omega,←hD] at this;rw[←this] at hpi;omega
 ·rw[hD] at hx;exact(least D' hcl k x hx).1
end Go.Proofs.YtamhlgflbacjgaaGreat
