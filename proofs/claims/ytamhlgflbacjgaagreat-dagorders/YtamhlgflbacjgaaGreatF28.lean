/-
  What is proved: as each theorem says.
  Conditions: as each theorem says.
-/
import Derived.Test.YtamhlgflbacjgaaGreatF00
import Derived.Test.YtamhlgflbacjgaaGreatF26
set_option maxRecDepth 100000
set_option maxHeartbeats 16000000
namespace Go.Proofs.YtamhlgflbacjgaaGreat
open Go.RowKit Go.Sort
def overOne (o:OpM) (r:Pr):Bool:= !decide (o.kind=4)&&o.preds.any fun q=>samePr q r
def overM (K:List (OpM×Pr)) (r:Pr):Bool:=K.any fun p=>overOne p.1 r
theorem over_yes {l:List KE} {r:Pr} {k:Nat} (hk:k<l.length) (h:overOne l[k].1.1 r=true):overM (keM l) r=true:=by
 unfold overM;refine List.any_eq_true.2 ⟨(l[k].1.1,l[k].2),?_,h⟩;unfold keM;exact List.mem_map.2 ⟨l[k],List.getElem_mem hk,rfl⟩
theorem over_no {l:List KE} {r:Pr} (h:∀j (hj:j<l.length),overOne l[j].1.1 r=false):overM (keM l) r=false:=by
 unfold overM;refine List.any_eq_false.2 fun p hp=>?_;unfold keM at hp;obtain⟨q,hq,rfl⟩:=List.mem_map.1 hp;obtain⟨j,hj,rfl⟩:=List.getElem_of_mem hq;simpa using h j hj
theorem one_yes {o:OpM} {r:Pr} {m:Nat} (h4:o.kind≠4) (hm:m<o.preds.length) (h:samePr o.preds[m] r=true):overOne o r=true:=by
 unfold overOne;rw[decide_eq_false h4,Bool.not_false,Bool.true_and];exact List.any_eq_true.2 ⟨_,List.getElem_mem hm,h⟩
theorem one_no {o:OpM} {r:Pr} (h:∀j (hj:j<o.preds.length),samePr o.preds[j] r=false):overOne o r=false:=by
 unfold overOne;have:(o.preds.any fun q=>samePr q r)=false:=List.any_eq_false.2 fun q hq=>by
  obtain⟨j,hj,rfl⟩:=List.getElem_of_mem hq;simpa using h j hj
 rw[this,Bool.and_false]
theorem one_four {o:OpM} {r:Pr} (h:o.kind=4):overOne o r=false:=by
 unfold overOne;rw[decide_eq_true h];rfl
def JB (w:World) (v:Value) (r:Pr) (wr:World):Prop:=wr.heap[w.heap.size]?=some (.cells #[v] 102)∧wr.heap[w.heap.size+1]?=some (.cells #[.int .i64 r.1,.int .i64 r.2] 49)∧Below w.heap.size w wr
theorem JB.next {w wr w':World} {v:Value} {r:Pr} (h:JB w v r wr) (b:Below wr.heap.size wr w'):JB w v r w':=⟨heap_below h.1 b lRf,heap_below h.2.1 b lRf,h.2.2.trans (b.mono h.2.2.size)⟩
theorem rOver_any (v:Value) (l:List KE) (r:Pr) (w:World) (hv:IsKn w v l):
 Calls Tryz.prog 132 #[.agg #[v],.agg #[.int .i64 r.1,.int .i64 r.2]] w fun e w'=>e=.returned (.bool (overM (keM l) r))∧Below w.heap.size w w':=by
 obtain⟨ka,kn,kc,rfl⟩:∃a n c,v=.slice a n c:=by obtain⟨a,c,e,_⟩:=hv;exact⟨_,_,_,e⟩
 have hkn:kn=l.length:=by obtain⟨_,_,e,_⟩:=hv;exact(Value.slice.inj e).2.1
 have HKN:=hY2 hkn ((by obtain⟨_,_,_,_,h,_⟩:=hv;exact h):l.length≤1000000);obtain⟨q0,q1,q2⟩:=two_boxes w (.cells #[.slice ka kn kc] 102) (.cells #[.int .i64 r.1,.int .i64 r.2] 49);have HV:Hid (IsKn w (.slice ka kn kc) l):=hv;have HE:=eqD;obtain⟨post,hpost⟩:∃post:Ending→World→Prop,post=fun e w'=>e=.returned (.bool (overM (keM l) r))∧Below w.heap.size w w':=⟨_,rfl⟩
 have HPO:Hid (post=fun e w'=>e=.returned (.bool (overM (keM l) r))∧Below w.heap.size w w'):=hpost;rw[←hpost];clear hv hkn hpost;go_enter Tryz.func132,Tryz.ntmps132
 go_upto_region 1 with fail
 have HJ0:Hid (JB w (.slice ka kn kc) r ((w.alloc (.cells #[.slice ka kn kc] 102)).alloc (.cells #[.int .i64 r.1,.int .i64 r.2] 49))):=⟨q0,q1,q2⟩
 generalize (w.alloc (.cells #[.slice ka kn kc] 102)).alloc (.cells #[.int .i64 r.1,.int .i64 r.2] 49)=W0 at *;clear q0 q1 q2;go_wp2_with fail;go_loopw [5] (fun i wr=>∃k:Nat,k≤kn∧i=.int .i64 (k:Int)∧Hid ((∀j (hj:j<l.length),j<k→overOne l[j].1.1 r=false)∧JB w (.slice ka kn kc) r wr)) (fun i _=>kn - (RowKit.intOf i).toNat)
 case atStart=>exact⟨0,Nat.zero_le _,rfl,fun j _ hj=>absurd hj (Nat.not_lt_zero _),HJ0.out⟩
 case round=>
  obtain⟨wo,hwo⟩:∃x:World,x=wr:=⟨wr,rfl⟩
  subst hwo;obtain⟨k,hk,rfl,HR⟩:=hrel;have d0:wo.cell? ⟨w.heap.size,0,none⟩=some (.slice ka kn kc):=cLo HR.out.2.1 0;by_cases hlt:k<kn
  ·have hkl:k<l.length:=by have:=HKN.out.1;omega
   obtain⟨o,ho⟩:=gNz (l[k].1.1:OpM);obtain⟨kb,ko,rfl,hkb,hkq,hkc⟩:=kn_cells HV.out hkl;clear hkq;rw[ho] at hkc;have hpr:IsPairs w l[k].1.2 o.preds:=by
    obtain⟨_,_,_,_,_,h,_⟩:=HV.out;have:=h l[k] (List.getElem_mem hkl);rw[ho] at this;exact this
   obtain⟨pa,pc,hpv,hp1,hp2,hp3,hp4⟩:=hpr;clear hp3;have HKB:Hid (∀W,Below w.heap.size w W→W.cell? ⟨kb,ko+k*15,none⟩=some (.int .i64 o.kind)∧W.cell? ⟨kb,ko+k*15+12,none⟩=some (.slice pa o.preds.length pc)):=fun W hW=>⟨(hW.cell (p:=⟨kb,ko+k*15,none⟩) hkb).trans (hkc 0 (by omega)),by rw[hW.cell (p:=⟨kb,ko+k*15+12,none⟩) hkb,hkc 12 (by omega)];simp[knCells,opCells,hpv]⟩
   have HPR:=hY2 hp2 hp4;have HO:Hid (∃h:k<l.length,l[k].1.1=o):=⟨hkl,ho⟩
   have e0:=(HKB.out wo HR.out.2.2.2).1;have e12:=(HKB.out wo HR.out.2.2.2).2;have g1:(k:Int)<kn:=by omega
   have HG2:Hid ((k:Int)<1000000):=by have:=HKN.out.2;show _<_;omega
   have g3:(0:Int)≤k:=by omega
   have HSTEP:Hid (overOne o r=false→∀j (hj:j<l.length),j<k+1→overOne l[j].1.1 r=false):=fun h j hj hjk=>by
    rcases Nat.lt_or_ge j k with h1 | h1
    ·exact HR.out.1 j hj h1
    ·obtain rfl:j=k:=by omega
     rw[ho];exact h
   have HLT:Hid (k<kn):=hlt;clear hlt hk hkl ho hkc hpv hp1 hp2 hp4 hkb;by_cases h4:o.kind=4
   ·rw[h4] at e0;have HN:=HSTEP.out (one_four h4);have HN1:Hid (_):=HN;clear HN h4 HKB HPR e12 HSTEP HE;have g2:=HG2.out;go_wp2;go_roundw
    case rel=>exact⟨k+1,HLT.out,by go_num,HN1.out,HR.out.2⟩
    case measure=>have:=HLT.out;simp[RowKit.intOf];omega
   ·have hne:(o.kind==4)=false:=by simpa using h4
    have H4:Hid (o.kind≠4):=h4;clear h4;go_wp2_with fail;go_loopw [6] (fun i wx=>∃m:Nat,m≤o.preds.length∧i=.int .i64 (m:Int)∧Hid ((∀j (hj:j<o.preds.length),j<m→samePr o.preds[j] r=false)∧JB w (.slice (some ⟨kb,ko,none⟩) kn kc) r wx)) (fun i _=>o.preds.length - (RowKit.intOf i).toNat)
    case atStart=>exact⟨0,Nat.zero_le _,rfl,fun j _ hj=>absurd hj (Nat.not_lt_zero _),HR.out.2⟩
    case round=>
     obtain⟨m,hm,rfl,HI⟩:=hrel;have d1:wr.cell? ⟨w.heap.size,0,none⟩=some (.slice (some ⟨kb,ko,none⟩) kn kc):=cLo HI.out.2.1 0;have e13:=(HKB.out wr HI.out.2.2.2).2;obtain⟨pn,hpn⟩:=gNz (o.preds.length);rw[hpn] at e12 e13 hm;have HPN:Hid (o.preds.length=pn):=hpn;clear hpn e0 e12 d0;by_cases hml:m<pn
     ·have hml2:m<o.preds.length:=by rw[HPN.out];exact hml
      obtain⟨pb,po,rfl,hpb,hpc⟩:=HPR.out.2 (fun e=>by rw[e] at hml2;simp at hml2);obtain⟨p,hp⟩:=gNz (o.preds[m]:Pr);have x0:wr.cell? ⟨pb,po+m*2,none⟩=some (.int .i64 p.1):=by rw[HI.out.2.2.2.cell (p:=⟨pb,po+m*2,none⟩) hpb,(hpc m hml2).1,hp]
      have x1:wr.cell? ⟨pb,po+m*2+1,none⟩=some (.int .i64 p.2):=by rw[HI.out.2.2.2.cell (p:=⟨pb,po+m*2+1,none⟩) hpb,(hpc m hml2).2,hp]
      obtain⟨y0,y1,-⟩:=cLs HI.out.2.2.1;have i1:(m:Int)<pn:=by omega
      have i2:(0:Int)≤m:=by omega
      have HI3:Hid ((m:Int)<8796093022208):=by have:=HPR.out.1;show _<_;omega
      have EQ:=HE p r;obtain⟨sb,hsb⟩:=gNz (samePr p r:Bool);rw[hsb] at EQ;have HS:Hid (∃h:m<o.preds.length,samePr o.preds[m] r=sb):=⟨hml2,by rw[hp];exact hsb⟩
      have HDR:=hY2 HI.out.1 (HI.out.2.next ((Below.refl _ _).drew):JB w (.slice (some ⟨kb,ko,none⟩) kn kc) r wr.drew);have HML:Hid (m<pn):=hml;clear hml hml2 hm hpb hpc hp hsb HE HI;go_upto_region 8 with fail
      refine rNh (fun W=>W.cell? ⟨w.heap.size,0,none⟩=some (.slice (some ⟨kb,ko,none⟩) kn kc)∧W.cell? ⟨kb,ko+k*15+12,none⟩=some (.slice (some ⟨pb,po,none⟩) pn pc)∧W.cell? ⟨pb,po+m*2,none⟩=some (.int .i64 p.1)∧W.cell? ⟨pb,po+m*2+1,none⟩=some (.int .i64 p.2)∧W.cell? ⟨w.heap.size+1,0,none⟩=some (.int .i64 r.1)∧W.cell? ⟨w.heap.size+1,1,none⟩=some (.int .i64 r.2)) (⟨d1,e13,x0,x1,y0,y1⟩) (fun hHeld=>?_);refine tk 0 rfl ?_ (by intro wz hSw;obtain⟨z0,z1,z2,z3,z4,z5⟩:=hSw;go_simp;try with_reducible rfl);refine tk 1 rfl ?_ (by intro wz hSw;obtain⟨z0,z1,z2,z3,z4,z5⟩:=hSw;go_simp;try with_reducible rfl);refine tk 2 rfl ?_ (by intro wz hSw;obtain⟨z0,z1,z2,z3,z4,z5⟩:=hSw;go_simp;try with_reducible rfl);refine tk 3 rfl ?_ (by intro wz hSw;obtain⟨z0,z1,z2,z3,z4,z5⟩:=hSw;go_simp;try with_reducible rfl);refine tk 4 rfl ?_ (by intro wz hSw;obtain⟨z0,z1,z2,z3,z4,z5⟩:=hSw;go_simp;try with_reducible rfl);refine tk 5 rfl ?_ (by intro wz hSw;obtain⟨z0,z1,z2,z3,z4,z5⟩:=hSw;go_simp;try with_reducible rfl);refine tk 6 rfl ?_ (by intro wz hSw;obtain⟨z0,z1,z2,z3,z4,z5⟩:=hSw;go_simp;try with_reducible rfl);refine tk 7 rfl ?_ (by intro wz hSw;obtain⟨z0,z1,z2,z3,z4,z5⟩:=hSw;go_simp;try with_reducible rfl);refine tk 8 rfl ?_ (by intro wz hSw;obtain⟨z0,z1,z2,z3,z4,z5⟩:=hSw;go_simp;try with_reducible rfl);refine tk 9 rfl ?_ (by intro wz hSw;obtain⟨z0,z1,z2,z3,z4,z5⟩:=hSw;go_simp;try with_reducible rfl);refine tk 10 rfl ?_ (by intro wz hSw;obtain⟨z0,z1,z2,z3,z4,z5⟩:=hSw;go_simp;try with_reducible rfl);refine tk 11 rfl ?_ (by intro wz hSw;obtain⟨z0,z1,z2,z3,z4,z5⟩:=hSw;go_simp;try with_reducible rfl);refine wDn ?_;clear hHeld d1 e13 x0 x1 y0 y1 EQ;generalize wr.drew=wd at *;cases sb with
      | true=>
       have HEND:Hid (post (.returned (.bool true)) wd):=by
        show post _ _;rw[HPO.out];obtain⟨h,hs⟩:=HS.out;obtain⟨h',ho⟩:=HO.out;exact⟨by rw[over_yes h' (by rw[ho];exact one_yes H4.out h hs)],HDR.out.2.2.2⟩
       go_wp2;exact HEND.out
      | false=>
       have HNX:Hid (∀j (hj:j<o.preds.length),j<m+1→samePr o.preds[j] r=false):=fun j hj hjm=>by
        obtain⟨h,hs⟩:=HS.out;rcases Nat.lt_or_ge j m with h1 | h1
        ·exact HDR.out.1 j hj h1
        ·obtain rfl:j=m:=by omega
         exact hs
       have i3:=HI3.out;go_wp2;go_roundw
       case rel=>exact⟨m+1,by have:=HML.out;have:=HPN.out;omega,by go_num,HNX.out,HDR.out.2⟩
       case measure=>have:=HML.out;have:=HPN.out;simp[RowKit.intOf];omega
     ·have i1:¬(m:Int)<pn:=by omega
      have HN1:Hid (∀j (hj:j<l.length),j<k+1→overOne l[j].1.1 r=false):=HSTEP.out (one_no fun j hj=>HI.out.1 j hj (by have:=HPN.out;omega));have HJ1:Hid (JB w (.slice (some ⟨kb,ko,none⟩) kn kc) r wr):=HI.out.2;clear hml hm HI HE;have g2:=HG2.out;go_wp2;go_roundw
      case rel=>exact⟨k+1,HLT.out,by go_num,HN1.out,HJ1.out⟩
      case measure=>have:=HLT.out;simp[RowKit.intOf];omega
  ·have g1:¬(k:Int)<kn:=by omega
   have HEND:Hid (post (.returned (.bool false)) wo):=by
    show post _ _;rw[HPO.out];exact⟨by rw[over_no fun j hj=>HR.out.1 j hj (by have:=HKN.out.1;omega)],HR.out.2.2.2⟩
   clear hlt hk;go_wp2;exact HEND.out
def pOp (obj:Pr) (key:ByteArray) (el:Pr):OpM:=⟨0,obj,key,el,false,⟨0,0,⟨#[]⟩,0,0⟩,[]⟩
def atOk (K:List (OpM×Pr)) (obj:Pr) (key:ByteArray) (el:Pr) (q:OpM×Pr):Bool:=placeB q.1 q.2 (pOp obj key el) (0,0)&& !decide (2<q.1.kind)&& !overM K q.2
def addP (r:Pr) (d n:Int) (ps:List Pr):Int:=ps.foldl (fun n a=>if samePr a r then wrap64 (n+d) else n) n
def addO (r:Pr) (n:Int) (q:OpM×Pr):Int:=if q.1.kind=4 then addP r q.1.val.n n q.1.preds else n
def addM (K:List (OpM×Pr)) (r:Pr) (n:Int):Int:=K.foldl (fun n q=>addO r n q) n
def valO (q:OpM×Pr):V:=if q.1.kind=2 then ⟨q.1.val.k,q.1.val.n,q.1.val.t,q.2.1,q.2.2⟩ else q.1.val
def valAt (K:List (OpM×Pr)) (q:OpM×Pr):V:=if (valO q).k=4 then ⟨(valO q).k,addM K q.2 (valO q).n,(valO q).t,(valO q).o,(valO q).a⟩ else valO q
def spot (l:List (V×Pr)) (r:Pr):Nat:=(l.takeWhile fun y=>lessB r.1 r.2 y.2.1 y.2.2).length
def insAt (l:List (V×Pr)) (x:V×Pr):List (V×Pr):=l.take (spot l x.2)++x::l.drop (spot l x.2)
def atM (K J:List (OpM×Pr)) (obj:Pr) (key:ByteArray) (el:Pr):List (V×Pr):=J.foldl (fun acc q=>if atOk K obj key el q then insAt acc (valAt K q,q.2) else acc) []
theorem atM_snoc (K J:List (OpM×Pr)) (q:OpM×Pr) (obj:Pr) (key:ByteArray) (el:Pr):atM K (J++[q]) obj key el=if atOk K obj key el q then insAt (atM K J obj key el) (valAt K q,q.2) else atM K J obj key el:=by
 unfold atM;rw[List.foldl_append];rfl
theorem insAt_len (l:List (V×Pr)) (x:V×Pr):(insAt l x).length=l.length+1:=by
 unfold insAt;rw[List.length_append,List.length_cons,List.length_take,List.length_drop];omega
theorem atM_len (K:List (OpM×Pr)) (obj:Pr) (key:ByteArray) (el:Pr) (J:List (OpM×Pr)):(atM K J obj key el).length≤J.length:=by
 have key':∀(J:List (OpM×Pr)) (acc:List (V×Pr)),(J.foldl (fun acc q=>if atOk K obj key el q then insAt acc (valAt K q,q.2) else acc) acc).length≤acc.length+J.length:=by
  intro J
  induction J with
  | nil=>intro acc;simp
  | cons q J ih=>
   intro acc;rw[List.foldl_cons,List.length_cons];have:=ih (if atOk K obj key el q then insAt acc (valAt K q,q.2) else acc);split at this
   ·rename_i h;rw[if_pos h];rw[insAt_len] at this;omega
   ·rename_i h;rw[if_neg h];omega
 have:=key' J [];simpa [atM] using this
theorem spot_go {l:List (V×Pr)} {r:Pr} {k:Nat} (h:k≤l.length) (h1:∀j (hj:j<l.length),j<k→lessB r.1 r.2 l[j].2.1 l[j].2.2=true) (h2:∀(hk:k<l.length),lessB r.1 r.2 l[k].2.1 l[k].2.2=false):spot l r=k:=by
 induction l generalizing k with
 | nil=>simp at h;subst h;rfl
 | cons a l ih=>
  unfold spot at *;rw[List.takeWhile_cons];cases k with
  | zero=>
   have:=h2 (by simp);simp only[List.getElem_cons_zero] at this;rw[this];rfl
  | succ k=>
   have h0:=h1 0 (by simp) (by omega);simp only[List.getElem_cons_zero] at h0;rw[if_pos h0,List.length_cons];rw[ih (by simpa using h) (fun j hj hjk=>by have:=h1 (j+1) (by simpa using hj) (by omega);simpa using this) (fun hk=>by have:=h2 (by simpa using hk);simpa using this)]
end Go.Proofs.YtamhlgflbacjgaaGreat
