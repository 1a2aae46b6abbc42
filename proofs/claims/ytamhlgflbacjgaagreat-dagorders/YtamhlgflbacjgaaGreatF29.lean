/-
  What is proved: as each theorem says.
  Conditions: as each theorem says.
-/
import Derived.Test.YtamhlgflbacjgaaGreatF00
import Derived.Test.YtamhlgflbacjgaaGreatF28
import Derived.Test.YtamhlgflbacjgaaGreatF26
import Derived.Test.YtamhlgflbacjgaaGreatF27
import Derived.Deep.CutBlock
set_option maxRecDepth 100000
set_option maxHeartbeats 16000000
namespace Go.Proofs.YtamhlgflbacjgaaGreat
open Go.RowKit Go.Sort
abbrev pBox (obj:Pr) (key:ByteArray) (el:Pr):Obj:=.cells #[.int .i64 0,.int .i64 obj.1,.int .i64 obj.2,.string key,.int .i64 el.1,.int .i64 el.2,.bool false,.int .i64 0,.int .i64 0,.string ⟨#[]⟩,.int .i64 0,.int .i64 0,.slice none 0 0,.int .i64 0,.int .i64 0] 131
theorem keep4h {W W':World} {p0 p1 p2 p3:Addr} {v0 v1 v2 v3:Value} (h:W.cell? p0=some v0∧W.cell? p1=some v1∧W.cell? p2=some v2∧W.cell? p3=some v3) (hb:Below W.heap.size W W'):W'.cell? p0=some v0∧W'.cell? p1=some v1∧W'.cell? p2=some v2∧W'.cell? p3=some v3:=
 ⟨(hb.cell (cell_in h.1)).trans h.1,(hb.cell (cell_in h.2.1)).trans h.2.1,(hb.cell (cell_in h.2.2.1)).trans h.2.2.1,(hb.cell (cell_in h.2.2.2)).trans h.2.2.2⟩
def vc (x:V):List Value:=[.int .i64 x.k,.int .i64 x.n,.string x.t,.int .i64 x.o,.int .i64 x.a]
def vcl (R:List (V×Pr)):List Value:=R.flatMap fun y=>vc y.1
def icl (R:List (V×Pr)):List Value:=R.flatMap fun y=>[.int .i64 y.2.1,.int .i64 y.2.2]
structure AB (w:World) (v:Value) (obj:Pr) (key:ByteArray) (el:Pr) (pb:Nat) (wr:World):Prop where
 j:wr.heap[w.heap.size]?=some (.cells #[v] 102)
 p:wr.heap[pb]?=some (pBox obj key el)
 b:Below w.heap.size w wr
theorem AB.next {w wr w':World} {v:Value} {obj el:Pr} {key:ByteArray} {pb:Nat} (h:AB w v obj key el pb wr) (b:Below wr.heap.size wr w'):AB w v obj key el pb w':=⟨heap_below h.j b lRf,heap_below h.p b lRf,h.b.trans (b.mono h.b.size)⟩
theorem cells_apart {w:World} {a b:Nat} {c d:Array Value} {T U:TypeId} (ha:w.heap[a]?=some (.cells c T)) (hb:w.heap[b]?=some (.cells d U)) (h:T≠U):a≠b:=by
 rintro rfl;rw[ha] at hb;injection hb with hb
 injection hb with _ e _
 exact h e
theorem four_boxes (w:World) (a b c d:Obj):((((w.alloc a).alloc b).alloc c).alloc d).heap[w.heap.size]?=some a∧((((w.alloc a).alloc b).alloc c).alloc d).heap[w.heap.size+1+1+1]?=some d∧Below w.heap.size w ((((w.alloc a).alloc b).alloc c).alloc d):=by
 obtain⟨h1,h2,h3⟩:=two_boxes w a b;have hs:((w.alloc a).alloc b).heap.size=w.heap.size+1+1:=by simp
 obtain⟨g1,g2,g3⟩:=two_boxes ((w.alloc a).alloc b) c d;rw[hs] at g2;exact⟨heap_below h1 g3 lRf,g2,h3.trans (g3.mono h3.size)⟩
theorem ofV:OfSize 134 59 5:=⟨Tryz.underlying134,by decide,by kernel_rfl⟩
theorem ofI:OfSize 50 49 2:=⟨Tryz.underlying50,by decide,by kernel_rfl⟩
theorem vcl_app (a b:List (V×Pr)):vcl (a++b)=vcl a++vcl b:=by simp[vcl]
theorem icl_app (a b:List (V×Pr)):icl (a++b)=icl a++icl b:=by simp[icl]
theorem vcl_len (R:List (V×Pr)):(vcl R).length=R.length*5:=by
 induction R with
 | nil=>rfl
 | cons y R ih=>rw[show vcl (y::R)=vc y.1++vcl R from rfl,List.length_append,ih,List.length_cons];simp[vc];omega
theorem icl_len (R:List (V×Pr)):(icl R).length=R.length*2:=by
 induction R with
 | nil=>rfl
 | cons y R ih=>rw[show icl (y::R)=[.int .i64 y.2.1,.int .i64 y.2.2]++icl R from rfl,List.length_append,ih,List.length_cons];simp;omega
theorem vcl_take (R:List (V×Pr)) (m:Nat) (hm:m≤R.length):(vcl R).take (m*5)=vcl (R.take m)∧(vcl R).drop (m*5)=vcl (R.drop m):=by
 have e:vcl R=vcl (R.take m)++vcl (R.drop m):=by rw[←vcl_app,List.take_append_drop]
 have hl:(vcl (R.take m)).length=m*5:=by rw[vcl_len,List.length_take,Nat.min_eq_left hm]
 exact⟨by rw[e,List.take_left' hl],by rw[e,List.drop_left' hl]⟩
theorem icl_take (R:List (V×Pr)) (m:Nat) (hm:m≤R.length):(icl R).take (m*2)=icl (R.take m)∧(icl R).drop (m*2)=icl (R.drop m):=by
 have e:icl R=icl (R.take m)++icl (R.drop m):=by rw[←icl_app,List.take_append_drop]
 have hl:(icl (R.take m)).length=m*2:=by rw[icl_len,List.length_take,Nat.min_eq_left hm]
 exact⟨by rw[e,List.take_left' hl],by rw[e,List.drop_left' hl]⟩
theorem vcl_one (R:List (V×Pr)):∀y∈vcl R,y.oneCell'=true:=by
 intro y hy;obtain⟨z,_,hz⟩:=List.mem_flatMap.1 hy;simp[vc] at hz;rcases hz with rfl | rfl | rfl | rfl | rfl <;> rfl
theorem icl_one (R:List (V×Pr)):∀y∈icl R,y.oneCell'=true:=by
 intro y hy;obtain⟨z,_,hz⟩:=List.mem_flatMap.1 hy;simp at hz;rcases hz with rfl | rfl <;> rfl
theorem rid_at {W:World} {B:Nat} {a:Option Addr} {n c:Nat} {R:List (V×Pr)} (h:W.ownsRow B 49 2 (.slice a n c) R.length (icl R)) {m:Nat} (hm:m<R.length) {y:V×Pr} (hy:R[m]=y):∃b,a=some ⟨b,0,none⟩∧W.cell? ⟨b,m*2,none⟩=some (.int .i64 y.2.1)∧W.cell? ⟨b,m*2+1,none⟩=some (.int .i64 y.2.2):=by
 have e:icl R=icl (R.take m)++(.int .i64 y.2.1::.int .i64 y.2.2::icl (R.drop (m+1))):=by
  have h1:R=R.take m++y::R.drop (m+1):=by rw[←hy,List.getElem_cons_drop,List.take_append_drop]
  rw[congrArg icl h1,icl_app];rfl
 have hl:(icl (R.take m)).length=m*2:=by rw[icl_len,List.length_take,Nat.min_eq_left (Nat.le_of_lt hm)]
 rcases h.2 with⟨_,h0⟩ | ⟨g,cap,cur,e1,_⟩
 ·omega
 ·obtain⟨rfl,hn,_⟩:=Value.slice.inj e1;subst hn;refine⟨g,rfl,?_,?_⟩
  ·rw[h.cellAt (m*2) (by omega),e,List.getElem?_append_right (by omega),hl,Nat.sub_self];rfl
  ·rw[h.cellAt (m*2+1) (by omega),e,List.getElem?_append_right (by omega),hl,show m*2+1 - m*2=1 by omega];rfl
theorem row_other {W W':World} {B B' e e' s s' n n':Nat} {v u:Value} {xs ys:List Value} (h:W.ownsRow B e s v n xs) (hu:W.ownsRow B' e' s' u n' ys) (he:e≠e') (gr:W.grownBy W' u.ownBlock):W'.ownsRow B e s v n xs:=h.kept gr (by
 rcases hv:v.ownBlock with _ | b
 ·exact Or.inl rfl
 ·refine Or.inr (fun e1=>?_);rcases h.2 with⟨rfl,_⟩ | ⟨g,cap,cur,rfl,_,hh,_⟩
  ·cases hv
  ·have hg:g=b:=Option.some.inj hv;subst hg;rcases hu.2 with⟨rfl,_⟩ | ⟨g2,cap2,cur2,rfl,_,hh2,_⟩
   ·cases e1
   ·have hg2:g=g2:=Option.some.inj e1;subst hg2;rw[hh] at hh2;injection hh2 with hh2
    injection hh2 with _ h3 _
    exact he h3)
def RowsR (w:World) (va na:Value) (R:List (V×Pr)) (wr:World):Prop:=wr.ownsRow w.heap.size 59 5 va R.length (vcl R)∧wr.ownsRow w.heap.size 49 2 na R.length (icl R)
theorem RowsR.below {w wr w':World} {va na:Value} {R:List (V×Pr)} (h:RowsR w va na R wr) (b:Below wr.heap.size wr w'):RowsR w va na R w':=⟨own_below h.1 b lRf,own_below h.2 b lRf⟩
def AtP (w:World) (R:List (V×Pr)) (e:Ending) (w':World):Prop:=∃va na,e=.returned (.tuple #[va,na])∧RowsR w va na R w'∧Below w.heap.size w w'
theorem at_next {l:List KE} {k:Nat} {o:OpM} {q:Pr} {pv:Value} (h:l[k]?=some ((o,pv),q)) (obj:Pr) (key:ByteArray) (el:Pr):atM (keM l) (keM (l.take (k+1))) obj key el=if atOk (keM l) obj key el (o,q) then insAt (atM (keM l) (keM (l.take k)) obj key el) (valAt (keM l) (o,q),q) else atM (keM l) (keM (l.take k)) obj key el:=by
 have e:keM (l.take (k+1))=keM (l.take k)++[(o,q)]:=by
  rw[List.take_add_one,h];unfold keM;rw[List.map_append];rfl
 rw[e,atM_snoc]
theorem rAt_any (v:Value) (l:List KE) (obj:Pr) (key:ByteArray) (el:Pr) (w:World) (hv:IsKn w v l):
 Calls Tryz.prog 91 #[.agg #[v],.agg #[.int .i64 obj.1,.int .i64 obj.2],.string key,.agg #[.int .i64 el.1,.int .i64 el.2]] w fun e w'=>AtP w (atM (keM l) (keM l) obj key el) e w':=by
 obtain⟨ka,kn,kc,rfl⟩:∃a n c,v=.slice a n c:=by obtain⟨a,c,e,_⟩:=hv;exact⟨_,_,_,e⟩
 have hkn:kn=l.length:=by obtain⟨_,_,e,_⟩:=hv;exact(Value.slice.inj e).2.1
 have HKN:Hid (kn=l.length∧l.length≤1000000):=⟨hkn,by obtain⟨_,_,_,_,h,_⟩:=hv;exact h⟩
 have HV:Hid (IsKn w (.slice ka kn kc) l):=hv;obtain⟨post,hpost⟩:∃post:Ending→World→Prop,post=fun e w'=>AtP w (atM (keM l) (keM l) obj key el) e w':=⟨_,rfl⟩
 have HPO:Hid (post=fun e w'=>AtP w (atM (keM l) (keM l) obj key el) e w'):=hpost;rw[←hpost];clear hv hkn hpost;go_enter Tryz.func91,Tryz.ntmps91
 go_upto_region 4 with fail
 obtain⟨q0,q1,q2⟩:=four_boxes w (.cells #[.slice ka kn kc] 102) (.cells #[.int .i64 obj.1,.int .i64 obj.2] 49) (.cells #[.int .i64 el.1,.int .i64 el.2] 49) (pBox obj key el);unfold pBox at q0 q1 q2;generalize (((w.alloc (.cells #[.slice ka kn kc] 102)).alloc (.cells #[.int .i64 obj.1,.int .i64 obj.2] 49)).alloc (.cells #[.int .i64 el.1,.int .i64 el.2] 49)).alloc _=W0 at *;generalize w.heap.size+1+1+1=pb at *;have HA0:Hid (AB w (.slice ka kn kc) obj key el pb W0):=⟨q0,q1,q2⟩
 clear q0 q1 q2;go_wp2_with fail;go_loopw [10,11,13] (fun vv nn i wr=>∃(k rn:Nat) (a1:Option Addr) (c1:Nat) (a2:Option Addr) (c2:Nat),k≤kn∧i=.int .i64 (k:Int)∧vv=.slice a1 rn c1∧nn=.slice a2 rn c2∧Hid (rn=(atM (keM l) (keM (l.take k)) obj key el).length∧RowsR w (.slice a1 rn c1) (.slice a2 rn c2) (atM (keM l) (keM (l.take k)) obj key el) wr∧AB w (.slice ka kn kc) obj key el pb wr)) (fun _ _ i _=>kn - (RowKit.intOf i).toNat)
 case atStart=>exact⟨0,0,none,0,none,0,Nat.zero_le _,rfl,rfl,rfl,by simp[keM,atM],⟨World.ownsRow_nil _ _ _ _,World.ownsRow_nil _ _ _ _⟩,HA0.out⟩
 case round=>
  obtain⟨wo,hwo⟩:∃x:World,x=wr:=⟨wr,rfl⟩
  subst hwo;obtain⟨k,rn,a1,c1,a2,c2,hk,rfl,rfl,rfl,HR⟩:=hrel;have d0:wo.cell? ⟨w.heap.size,0,none⟩=some (.slice ka kn kc):=cLo HR.out.2.2.j 0;by_cases hlt:k<kn
  ·have hkl:k<l.length:=by have:=HKN.out.1;omega
   obtain⟨⟨⟨o,pv⟩,q⟩,hq⟩:∃z:KE,l[k]=z:=⟨_,rfl⟩
   obtain⟨kb,ko,rfl,hkb,hkq,hkc⟩:=kn_cells HV.out hkl;clear hkq;rw[hq] at hkc;have hpr:IsPairs w pv o.preds:=by
    obtain⟨_,_,_,_,_,h,_⟩:=HV.out;have:=h l[k] (List.getElem_mem hkl);rw[hq] at this;exact this
   obtain⟨pa,pc,rfl,hp1,hp2,hp3,hp4⟩:=hpr;obtain⟨pn,hpn⟩:=gNz (o.preds.length);rw[hpn] at hkc;have HQ:Hid (l[k]?=some ((o,.slice pa pn pc),q)):=by rw[←hpn,←hq];exact List.getElem?_eq_getElem hkl
   have HPN:Hid (o.preds.length=pn):=hpn;have HC:Hid (∀W,Below w.heap.size w W→∀j,j<15→W.cell? ⟨kb,ko+k*15+j,none⟩=([.int .i64 o.kind,.int .i64 o.obj.1,.int .i64 o.obj.2,.string o.key,.int .i64 o.elem.1,.int .i64 o.elem.2,.bool o.ins,.int .i64 o.val.k,.int .i64 o.val.n,.string o.val.t,.int .i64 o.val.o,.int .i64 o.val.a,.slice pa pn pc,.int .i64 q.1,.int .i64 q.2]:List Value)[j]?):=fun W hW j hj=>(hW.cell (p:=⟨kb,ko+k*15+j,none⟩) hkb).trans (hkc j hj);have g1:(k:Int)<kn:=by omega
   have HG2:Hid ((k:Int)<1000000):=by have:=HKN.out.2;show _<_;omega
   have g3:(0:Int)≤k:=by omega
   have HLT:Hid (k<kn):=hlt;clear hlt hk hkl hkc hpn hp1 hp2 hp3 hp4 hkb hq;have y0:=HC.out wo HR.out.2.2.b 0 (by omega);have y1:=HC.out wo HR.out.2.2.b 1 (by omega);have y2:=HC.out wo HR.out.2.2.b 2 (by omega);have y3:=HC.out wo HR.out.2.2.b 3 (by omega);have y4:=HC.out wo HR.out.2.2.b 4 (by omega);have y5:=HC.out wo HR.out.2.2.b 5 (by omega);have y6:=HC.out wo HR.out.2.2.b 6 (by omega);have y7:=HC.out wo HR.out.2.2.b 7 (by omega);have y8:=HC.out wo HR.out.2.2.b 8 (by omega);have y9:=HC.out wo HR.out.2.2.b 9 (by omega);have y10:=HC.out wo HR.out.2.2.b 10 (by omega);have y11:=HC.out wo HR.out.2.2.b 11 (by omega);have y12:=HC.out wo HR.out.2.2.b 12 (by omega);have y13:=HC.out wo HR.out.2.2.b 13 (by omega);have y14:=HC.out wo HR.out.2.2.b 14 (by omega);simp only[List.getElem?_cons_zero,List.getElem?_cons_succ,Nat.add_zero] at y0 y1 y2 y3 y4 y5 y6 y7 y8 y9 y10 y11 y12 y13 y14;go_upto_region 8 with fail
   have HO1:Hid ((wo.alloc (.cells #[.int .i64 o.kind,.int .i64 o.obj.1,.int .i64 o.obj.2,.string o.key,.int .i64 o.elem.1,.int .i64 o.elem.2,.bool o.ins,.int .i64 o.val.k,.int .i64 o.val.n,.string o.val.t,.int .i64 o.val.o,.int .i64 o.val.a,.slice pa pn pc,.int .i64 q.1,.int .i64 q.2] 131)).heap[wo.heap.size]?=some (.cells #[.int .i64 o.kind,.int .i64 o.obj.1,.int .i64 o.obj.2,.string o.key,.int .i64 o.elem.1,.int .i64 o.elem.2,.bool o.ins,.int .i64 o.val.k,.int .i64 o.val.n,.string o.val.t,.int .i64 o.val.o,.int .i64 o.val.a,.slice pa pn pc,.int .i64 q.1,.int .i64 q.2] 131)∧Below wo.heap.size wo (wo.alloc (.cells #[.int .i64 o.kind,.int .i64 o.obj.1,.int .i64 o.obj.2,.string o.key,.int .i64 o.elem.1,.int .i64 o.elem.2,.bool o.ins,.int .i64 o.val.k,.int .i64 o.val.n,.string o.val.t,.int .i64 o.val.o,.int .i64 o.val.a,.slice pa pn pc,.int .i64 q.1,.int .i64 q.2] 131))):=⟨heap_alloc_new wo _,bAl _ _⟩
   generalize wo.alloc (.cells #[.int .i64 o.kind,.int .i64 o.obj.1,.int .i64 o.obj.2,.string o.key,.int .i64 o.elem.1,.int .i64 o.elem.2,.bool o.ins,.int .i64 o.val.k,.int .i64 o.val.n,.string o.val.t,.int .i64 o.val.o,.int .i64 o.val.a,.slice pa pn pc,.int .i64 q.1,.int .i64 q.2] 131)=w1 at *;have HA1:Hid (AB w (.slice (some ⟨kb,ko,none⟩) kn kc) obj key el pb w1):=HR.out.2.2.next HO1.out.2;clear y0 y1 y2 y3 y4 y5 y6 y7 y8 y9 y10 y11 y12 y13 y14 d0;obtain⟨y0,y1,y2,y3,y4,y5,y6,y7,y8,y9,y10,y11,y12,y13,y14,-⟩:=cLs HO1.out.1;obtain⟨z0,z1,z2,z3,z4,z5,z6,z7,z8,z9,z10,z11,z12,z13,z14,-⟩:=cLs HA1.out.p;have EP:=rPlace_any o (pOp obj key el) pa none pn pc 0 0 q (0,0) w1;dsimp only[pOp] at EP;have HSAME:Hid (∀W,Below wo.heap.size wo W→atOk (keM l) obj key el (o,q)=false→rn=(atM (keM l) (keM (l.take (k+1))) obj key el).length∧RowsR w (.slice a1 rn c1) (.slice a2 rn c2) (atM (keM l) (keM (l.take (k+1))) obj key el) W∧AB w (.slice (some ⟨kb,ko,none⟩) kn kc) obj key el pb W):=fun W hW h=>by
    rw[at_next HQ.out,h];exact⟨HR.out.1,HR.out.2.1.below hW,HR.out.2.2.next hW⟩
   obtain⟨pbv,hpbv⟩:=gNz (placeB o q ⟨0,obj,key,el,false,⟨0,0,⟨#[]⟩,0,0⟩,[]⟩ (0,0):Bool);rw[hpbv] at EP;have HPB:Hid (atOk (keM l) obj key el (o,q)=(pbv&& !decide (2<o.kind)&& !overM (keM l) q)):=by show _=_;rw[←hpbv];rfl
   clear hpbv;go_wp2_with fail;go_fit EP;rintro e w2 ⟨rfl,b2⟩;have HO2:Hid (w2.heap[wo.heap.size]?=some (.cells #[.int .i64 o.kind,.int .i64 o.obj.1,.int .i64 o.obj.2,.string o.key,.int .i64 o.elem.1,.int .i64 o.elem.2,.bool o.ins,.int .i64 o.val.k,.int .i64 o.val.n,.string o.val.t,.int .i64 o.val.o,.int .i64 o.val.a,.slice pa pn pc,.int .i64 q.1,.int .i64 q.2] 131)∧Below wo.heap.size wo w2):=⟨heap_below HO1.out.1 b2 lRf,HO1.out.2.trans (b2.mono HO1.out.2.size)⟩
   have HA2:Hid (AB w (.slice (some ⟨kb,ko,none⟩) kn kc) obj key el pb w2):=HA1.out.next b2;clear EP b2 HO1 HA1 y0 y1 y2 y3 y4 y5 y6 y7 y8 y9 y10 y11 y12 y13 y14 z0 z1 z2 z3 z4 z5 z6 z7 z8 z9 z10 z11 z12 z13 z14;cases pbv with
   | false=>
    have HN:=HSAME.out w2 HO2.out.2 (by rw[HPB.out];rfl);have HN1:Hid (_∧_∧_):=HN;clear HN HSAME HPB;go_upto_region 6 with fail
    have g2:=HG2.out;go_wp2;go_roundw
    case rel=>exact⟨k+1,rn,a1,c1,a2,c2,HLT.out,by go_num,rfl,rfl,HN1.out⟩
    case measure=>have:=HLT.out;simp[RowKit.intOf];omega
   | true=>
    have u0:w2.cell? ⟨wo.heap.size,0,none⟩=some (.int .i64 o.kind):=cLo HO2.out.1 0;by_cases h2:2<o.kind
    ·have HN:=HSAME.out w2 HO2.out.2 (by rw[HPB.out,decide_eq_true h2];rfl);have HN1:Hid (_∧_∧_):=HN;have hd:decide (2<o.kind)=true:=decide_eq_true h2;clear HN HSAME HPB h2 g1 g3;go_upto_region 6 with fail
     have g2:=HG2.out;go_wp2;go_roundw
     case rel=>exact⟨k+1,rn,a1,c1,a2,c2,HLT.out,by go_num,rfl,rfl,HN1.out⟩
     case measure=>have:=HLT.out;simp[RowKit.intOf];omega
    ·obtain⟨-,-,-,-,-,-,-,-,-,-,-,-,-,u13,u14,-⟩:=cLs HO2.out.1;have d0:w2.cell? ⟨w.heap.size,0,none⟩=some (.slice (some ⟨kb,ko,none⟩) kn kc):=cLo HA2.out.j 0;have EO:=rOver_any (.slice (some ⟨kb,ko,none⟩) kn kc) l q w2 (HV.out.below HA2.out.b);obtain⟨ov,hov⟩:=gNz (overM (keM l) q:Bool);rw[hov] at EO;have HOV:Hid (atOk (keM l) obj key el (o,q)= !ov):=by show _=_;rw[HPB.out,hov,decide_eq_false h2];rfl
     have HK2:Hid (¬2<o.kind):=h2;have hd:decide (2<o.kind)=false:=decide_eq_false h2;have HG13:Hid ((k:Int)<kn∧(0:Int)≤k):=⟨g1,g3⟩
     clear hov HPB h2 g1 g3;go_wp2_with fail;go_fit EO;rintro e w3 ⟨rfl,b3⟩;have HO3:Hid (w3.heap[wo.heap.size]?=some (.cells #[.int .i64 o.kind,.int .i64 o.obj.1,.int .i64 o.obj.2,.string o.key,.int .i64 o.elem.1,.int .i64 o.elem.2,.bool o.ins,.int .i64 o.val.k,.int .i64 o.val.n,.string o.val.t,.int .i64 o.val.o,.int .i64 o.val.a,.slice pa pn pc,.int .i64 q.1,.int .i64 q.2] 131)∧Below wo.heap.size wo w3):=⟨heap_below HO2.out.1 b3 lRf,HO2.out.2.trans (b3.mono HO2.out.2.size)⟩
     have HA3:Hid (AB w (.slice (some ⟨kb,ko,none⟩) kn kc) obj key el pb w3):=HA2.out.next b3;clear EO b3 HO2 HA2 u0 u13 u14 d0 hd;cases ov with
     | true=>
      have HN:=HSAME.out w3 HO3.out.2 (by rw[HOV.out];rfl);have HN1:Hid (_∧_∧_):=HN;clear HN HSAME HOV;go_upto_region 6 with fail
      have g2:=HG2.out;go_wp2;go_roundw
      case rel=>exact⟨k+1,rn,a1,c1,a2,c2,HLT.out,by go_num,rfl,rfl,HN1.out⟩
      case measure=>have:=HLT.out;simp[RowKit.intOf];omega
     | false=>
      have HOK:Hid (atOk (keM l) obj key el (o,q)=true):=HOV.out;clear HOV HSAME;obtain⟨-,-,-,-,-,-,-,u7,u8,u9,u10,u11,-⟩:=cLs HO3.out.1;go_upto_region 13 with fail
      have bX:Below w3.heap.size w3 (w3.alloc (.cells #[.int .i64 o.val.k,.int .i64 o.val.n,.string o.val.t,.int .i64 o.val.o,.int .i64 o.val.a] 59)):=bAl _ _;have HX4:Hid ((w3.alloc (.cells #[.int .i64 o.val.k,.int .i64 o.val.n,.string o.val.t,.int .i64 o.val.o,.int .i64 o.val.a] 59)).heap[w3.heap.size]?=some (.cells #[.int .i64 o.val.k,.int .i64 o.val.n,.string o.val.t,.int .i64 o.val.o,.int .i64 o.val.a] 59)∧(w3.alloc (.cells #[.int .i64 o.val.k,.int .i64 o.val.n,.string o.val.t,.int .i64 o.val.o,.int .i64 o.val.a] 59)).heap[wo.heap.size]?=some (.cells #[.int .i64 o.kind,.int .i64 o.obj.1,.int .i64 o.obj.2,.string o.key,.int .i64 o.elem.1,.int .i64 o.elem.2,.bool o.ins,.int .i64 o.val.k,.int .i64 o.val.n,.string o.val.t,.int .i64 o.val.o,.int .i64 o.val.a,.slice pa pn pc,.int .i64 q.1,.int .i64 q.2] 131)∧Below wo.heap.size wo (w3.alloc (.cells #[.int .i64 o.val.k,.int .i64 o.val.n,.string o.val.t,.int .i64 o.val.o,.int .i64 o.val.a] 59))):=⟨heap_alloc_new w3 _,heap_below HO3.out.1 bX lRf,HO3.out.2.trans (bX.mono HO3.out.2.size)⟩
      have HXB:Hid (wo.heap.size≤w3.heap.size):=HO3.out.2.size;clear u7 u8 u9 u10 u11 HO3 HA3 bX;generalize w3.alloc (.cells #[.int .i64 o.val.k,.int .i64 o.val.n,.string o.val.t,.int .i64 o.val.o,.int .i64 o.val.a] 59)=w4 at *;generalize w3.heap.size=xb at *;have u0:w4.cell? ⟨wo.heap.size,0,none⟩=some (.int .i64 o.kind):=cLo HX4.out.2.1 0;go_upto_if 63 with fail
      clear u0;go_cut [] from 63 to 66 (fun wx=>Hid (wx.heap[xb]?=some (.cells (vc (valO (o,q))).toArray 59)∧wx.heap[wo.heap.size]?=some (.cells #[.int .i64 o.kind,.int .i64 o.obj.1,.int .i64 o.obj.2,.string o.key,.int .i64 o.elem.1,.int .i64 o.elem.2,.bool o.ins,.int .i64 o.val.k,.int .i64 o.val.n,.string o.val.t,.int .i64 o.val.o,.int .i64 o.val.a,.slice pa pn pc,.int .i64 q.1,.int .i64 q.2] 131)∧Below wo.heap.size wo wx))
      case first=>
       by_cases h2:o.kind=2
       ·have hd:(o.kind==2)=true:=by simpa using h2
        obtain⟨-,-,-,-,-,-,-,-,-,-,-,-,-,u13,u14,-⟩:=cLs HX4.out.2.1;obtain⟨-,-,-,x3,x4,-⟩:=cLs HX4.out.1;have kf:=fRz HX4.out.1;have HFIN:Hid (((w4.setCell ⟨xb,3,none⟩ (.int .i64 q.1)).setCell ⟨xb,4,none⟩ (.int .i64 q.2)).heap[xb]?=some (.cells (vc (valO (o,q))).toArray 59)∧((w4.setCell ⟨xb,3,none⟩ (.int .i64 q.1)).setCell ⟨xb,4,none⟩ (.int .i64 q.2)).heap[wo.heap.size]?=some (.cells #[.int .i64 o.kind,.int .i64 o.obj.1,.int .i64 o.obj.2,.string o.key,.int .i64 o.elem.1,.int .i64 o.elem.2,.bool o.ins,.int .i64 o.val.k,.int .i64 o.val.n,.string o.val.t,.int .i64 o.val.o,.int .i64 o.val.a,.slice pa pn pc,.int .i64 q.1,.int .i64 q.2] 131)∧Below wo.heap.size wo ((w4.setCell ⟨xb,3,none⟩ (.int .i64 q.1)).setCell ⟨xb,4,none⟩ (.int .i64 q.2))):=by
         have hne:wo.heap.size≠xb:=cells_apart HX4.out.2.1 HX4.out.1 (by decide);refine⟨?_,heap_set_other (heap_set_other HX4.out.2.1 hne) hne,(HX4.out.2.2.setCell HXB.out _).setCell HXB.out _⟩;rw[set_at (set_at HX4.out.1 3 _) 4 _];unfold valO;rw[if_pos h2];rfl
        rw[hd];clear h2 hd;go_wp2;go_meet
        case rel=>exact HFIN.out
       ·have hd:(o.kind==2)=false:=by simpa using h2
        have HFIN:Hid (w4.heap[xb]?=some (.cells (vc (valO (o,q))).toArray 59)∧w4.heap[wo.heap.size]?=some (.cells #[.int .i64 o.kind,.int .i64 o.obj.1,.int .i64 o.obj.2,.string o.key,.int .i64 o.elem.1,.int .i64 o.elem.2,.bool o.ins,.int .i64 o.val.k,.int .i64 o.val.n,.string o.val.t,.int .i64 o.val.o,.int .i64 o.val.a,.slice pa pn pc,.int .i64 q.1,.int .i64 q.2] 131)∧Below wo.heap.size wo w4):=by
         refine⟨?_,HX4.out.2⟩;unfold valO;rw[if_neg h2];exact HX4.out.1
        rw[hd];clear h2 hd;go_wp2;go_meet
        case rel=>exact HFIN.out
      case rest=>
       have HXC:Hid (_∧_∧_):=hcut.out;obtain⟨X,hX⟩:=gNz (valO (o,q):V);obtain⟨xk,xn,xt,xo,xa⟩:=X;have HVO:Hid (valO (o,q)=⟨xk,xn,xt,xo,xa⟩):=hX;rw[hX] at HXC;clear HX4 hcut hX;have x0:wc.cell? ⟨xb,0,none⟩=some (.int .i64 xk):=cLo HXC.out.1 0;go_upto_if 69 with fail
       clear x0;go_cut [18,19,20] from 69 to 109 (fun _ _ _ wx=>Hid (wx.heap[xb]?=some (.cells (vc (valAt (keM l) (o,q))).toArray 59)∧wx.heap[wo.heap.size]?=some (.cells #[.int .i64 o.kind,.int .i64 o.obj.1,.int .i64 o.obj.2,.string o.key,.int .i64 o.elem.1,.int .i64 o.elem.2,.bool o.ins,.int .i64 o.val.k,.int .i64 o.val.n,.string o.val.t,.int .i64 o.val.o,.int .i64 o.val.a,.slice pa pn pc,.int .i64 q.1,.int .i64 q.2] 131)∧Below wo.heap.size wo wx))
       case first=>
        by_cases h4:xk=4
        ·have hd:(xk==4)=true:=by simpa using h4
         rw[hd];have H4:Hid (xk=4):=h4;clear h4 hd;go_wp2_with fail;go_loopw [18] (fun i wx=>∃k2:Nat,k2≤kn∧i=.int .i64 (k2:Int)∧Hid (wx.heap[xb]?=some (.cells #[.int .i64 xk,.int .i64 (addM ((keM l).take k2) q xn),.string xt,.int .i64 xo,.int .i64 xa] 59)∧wx.heap[wo.heap.size]?=some (.cells #[.int .i64 o.kind,.int .i64 o.obj.1,.int .i64 o.obj.2,.string o.key,.int .i64 o.elem.1,.int .i64 o.elem.2,.bool o.ins,.int .i64 o.val.k,.int .i64 o.val.n,.string o.val.t,.int .i64 o.val.o,.int .i64 o.val.a,.slice pa pn pc,.int .i64 q.1,.int .i64 q.2] 131)∧Below wo.heap.size wo wx)) (fun i _=>kn - (RowKit.intOf i).toNat)
         case atStart=>exact⟨0,Nat.zero_le _,rfl,HXC.out⟩
         case round=>
          obtain⟨k2,hk2,rfl,HI⟩:=hrel;obtain⟨wi,hwi⟩:∃x:World,x=wr:=⟨wr,rfl⟩
          subst hwi;obtain⟨n2,hn2⟩:=gNz (addM ((keM l).take k2) q xn);have HN2:Hid (addM ((keM l).take k2) q xn=n2):=hn2;rw[hn2] at HI;clear hn2;have HAI:Hid (AB w (.slice (some ⟨kb,ko,none⟩) kn kc) obj key el pb wi):=HR.out.2.2.next HI.out.2.2;have d0:wi.cell? ⟨w.heap.size,0,none⟩=some (.slice (some ⟨kb,ko,none⟩) kn kc):=cLo HAI.out.j 0;by_cases hlt2:k2<kn
          ·have hkl2:k2<l.length:=by have:=HKN.out.1;omega
           obtain⟨⟨⟨o2,pv2⟩,q2⟩,hq2⟩:∃z:KE,l[k2]=z:=⟨_,rfl⟩
           obtain⟨kb2,ko2,hke,hkb2,hkq2,hkc2⟩:=kn_cells HV.out hkl2;clear hkq2;injection hke with hke
           injection hke with hke1 hke2 hke3
           subst hke1 hke2;clear hke3;rw[hq2] at hkc2;have hpr2:IsPairs w pv2 o2.preds:=by
            obtain⟨_,_,_,_,_,h,_⟩:=HV.out;have:=h l[k2] (List.getElem_mem hkl2);rw[hq2] at this;exact this
           obtain⟨pa2,pc2,rfl,hp21,hp22,hp23,hp24⟩:=hpr2;obtain⟨pn2,hpn2⟩:=gNz (o2.preds.length);rw[hpn2] at hkc2;have HQ2:Hid ((keM l)[k2]?=some (o2,q2)):=by
            show _=_;unfold keM;rw[List.getElem?_map,List.getElem?_eq_getElem hkl2,hq2];rfl
           have HPN2:Hid (o2.preds.length=pn2∧o2.preds.length≤8796093022208):=⟨hpn2,hp22⟩
           have HP24:Hid (o2.preds≠[]→∃b off,pa2=some ⟨b,off,none⟩∧b<w.heap.size∧∀i (h:i<o2.preds.length),w.cell? ⟨b,off+i*2,none⟩=some (.int .i64 o2.preds[i].1)∧w.cell? ⟨b,off+i*2+1,none⟩=some (.int .i64 o2.preds[i].2)):=hp24;have hcell2:∀j,j<15→wi.cell? ⟨kb,ko+k2*15+j,none⟩=([.int .i64 o2.kind,.int .i64 o2.obj.1,.int .i64 o2.obj.2,.string o2.key,.int .i64 o2.elem.1,.int .i64 o2.elem.2,.bool o2.ins,.int .i64 o2.val.k,.int .i64 o2.val.n,.string o2.val.t,.int .i64 o2.val.o,.int .i64 o2.val.a,.slice pa2 pn2 pc2,.int .i64 q2.1,.int .i64 q2.2]:List Value)[j]?:=fun j hj=>(HAI.out.b.cell (p:=⟨kb,ko+k2*15+j,none⟩) hkb2).trans (hkc2 j hj);have v0:=hcell2 0 (by omega);have v1:=hcell2 1 (by omega);have v2:=hcell2 2 (by omega);have v3:=hcell2 3 (by omega);have v4:=hcell2 4 (by omega);have v5:=hcell2 5 (by omega);have v6:=hcell2 6 (by omega);have v7:=hcell2 7 (by omega);have v8:=hcell2 8 (by omega);have v9:=hcell2 9 (by omega);have v10:=hcell2 10 (by omega);have v11:=hcell2 11 (by omega);have v12:=hcell2 12 (by omega);simp only[List.getElem?_cons_zero,List.getElem?_cons_succ,Nat.add_zero] at v0 v1 v2 v3 v4 v5 v6 v7 v8 v9 v10 v11 v12;have g21:(k2:Int)<kn:=by omega
           have g23:(0:Int)≤k2:=by omega
           have HLT2:Hid (k2<kn):=hlt2;have HNX2:Hid (addM ((keM l).take (k2+1)) q xn=addO q n2 (o2,q2)):=by
            show _=_;rw[List.take_add_one,HQ2.out,←HN2.out];unfold addM;rw[List.foldl_append];rfl
           clear hlt2 hk2 hkl2 hkc2 hpn2 hp21 hp22 hp23 hp24 hkb2 hq2 hcell2;go_upto_region 20 with fail
           have bO2:Below wi.heap.size wi (wi.alloc (.cells #[.int .i64 o2.kind,.int .i64 o2.obj.1,.int .i64 o2.obj.2,.string o2.key,.int .i64 o2.elem.1,.int .i64 o2.elem.2,.bool o2.ins,.int .i64 o2.val.k,.int .i64 o2.val.n,.string o2.val.t,.int .i64 o2.val.o,.int .i64 o2.val.a,.slice pa2 pn2 pc2] 62)):=bAl _ _;have HO2X:Hid ((wi.alloc (.cells #[.int .i64 o2.kind,.int .i64 o2.obj.1,.int .i64 o2.obj.2,.string o2.key,.int .i64 o2.elem.1,.int .i64 o2.elem.2,.bool o2.ins,.int .i64 o2.val.k,.int .i64 o2.val.n,.string o2.val.t,.int .i64 o2.val.o,.int .i64 o2.val.a,.slice pa2 pn2 pc2] 62)).heap[wi.heap.size]?=some (.cells #[.int .i64 o2.kind,.int .i64 o2.obj.1,.int .i64 o2.obj.2,.string o2.key,.int .i64 o2.elem.1,.int .i64 o2.elem.2,.bool o2.ins,.int .i64 o2.val.k,.int .i64 o2.val.n,.string o2.val.t,.int .i64 o2.val.o,.int .i64 o2.val.a,.slice pa2 pn2 pc2] 62)∧(wi.alloc (.cells #[.int .i64 o2.kind,.int .i64 o2.obj.1,.int .i64 o2.obj.2,.string o2.key,.int .i64 o2.elem.1,.int .i64 o2.elem.2,.bool o2.ins,.int .i64 o2.val.k,.int .i64 o2.val.n,.string o2.val.t,.int .i64 o2.val.o,.int .i64 o2.val.a,.slice pa2 pn2 pc2] 62)).heap[xb]?=some (.cells #[.int .i64 xk,.int .i64 n2,.string xt,.int .i64 xo,.int .i64 xa] 59)∧(wi.alloc (.cells #[.int .i64 o2.kind,.int .i64 o2.obj.1,.int .i64 o2.obj.2,.string o2.key,.int .i64 o2.elem.1,.int .i64 o2.elem.2,.bool o2.ins,.int .i64 o2.val.k,.int .i64 o2.val.n,.string o2.val.t,.int .i64 o2.val.o,.int .i64 o2.val.a,.slice pa2 pn2 pc2] 62)).heap[wo.heap.size]?=some (.cells #[.int .i64 o.kind,.int .i64 o.obj.1,.int .i64 o.obj.2,.string o.key,.int .i64 o.elem.1,.int .i64 o.elem.2,.bool o.ins,.int .i64 o.val.k,.int .i64 o.val.n,.string o.val.t,.int .i64 o.val.o,.int .i64 o.val.a,.slice pa pn pc,.int .i64 q.1,.int .i64 q.2] 131)∧Below wo.heap.size wo (wi.alloc (.cells #[.int .i64 o2.kind,.int .i64 o2.obj.1,.int .i64 o2.obj.2,.string o2.key,.int .i64 o2.elem.1,.int .i64 o2.elem.2,.bool o2.ins,.int .i64 o2.val.k,.int .i64 o2.val.n,.string o2.val.t,.int .i64 o2.val.o,.int .i64 o2.val.a,.slice pa2 pn2 pc2] 62))):=⟨heap_alloc_new wi _,heap_below HI.out.1 bO2 lRf,heap_below HI.out.2.1 bO2 lRf,HI.out.2.2.trans (bO2.mono HI.out.2.2.size)⟩
           have HWI:Hid (wo.heap.size≤wi.heap.size):=HI.out.2.2.size;clear bO2 d0 v0 v1 v2 v3 v4 v5 v6 v7 v8 v9 v10 v11 v12;generalize wi.alloc (.cells #[.int .i64 o2.kind,.int .i64 o2.obj.1,.int .i64 o2.obj.2,.string o2.key,.int .i64 o2.elem.1,.int .i64 o2.elem.2,.bool o2.ins,.int .i64 o2.val.k,.int .i64 o2.val.n,.string o2.val.t,.int .i64 o2.val.o,.int .i64 o2.val.a,.slice pa2 pn2 pc2] 62)=wj at *;generalize wi.heap.size=ob at *;have HG22:Hid ((k2:Int)<1000000):=by have:=HLT2.out;have:=HKN.out;show _<_;omega
           clear g21 g23;by_cases h24:o2.kind=4
           ·have HN4:Hid (addM ((keM l).take (k2+1)) q xn=addP q o2.val.n n2 o2.preds):=by
             show _=_;rw[HNX2.out];exact if_pos h24
            rw[h24] at HO2X;clear h24 HNX2;go_wp2_with fail;go_loopw [20] (fun i wx=>∃m:Nat,m≤pn2∧i=.int .i64 (m:Int)∧Hid (wx.heap[ob]?=some (.cells #[.int .i64 4,.int .i64 o2.obj.1,.int .i64 o2.obj.2,.string o2.key,.int .i64 o2.elem.1,.int .i64 o2.elem.2,.bool o2.ins,.int .i64 o2.val.k,.int .i64 o2.val.n,.string o2.val.t,.int .i64 o2.val.o,.int .i64 o2.val.a,.slice pa2 pn2 pc2] 62)∧wx.heap[xb]?=some (.cells #[.int .i64 xk,.int .i64 (addP q o2.val.n n2 (o2.preds.take m)),.string xt,.int .i64 xo,.int .i64 xa] 59)∧wx.heap[wo.heap.size]?=some (.cells #[.int .i64 o.kind,.int .i64 o.obj.1,.int .i64 o.obj.2,.string o.key,.int .i64 o.elem.1,.int .i64 o.elem.2,.bool o.ins,.int .i64 o.val.k,.int .i64 o.val.n,.string o.val.t,.int .i64 o.val.o,.int .i64 o.val.a,.slice pa pn pc,.int .i64 q.1,.int .i64 q.2] 131)∧Below wo.heap.size wo wx)) (fun i _=>pn2 - (RowKit.intOf i).toNat)
            case atStart=>exact⟨0,Nat.zero_le _,rfl,HO2X.out⟩
            case round=>
             obtain⟨m,hm,rfl,HM⟩:=hrel;obtain⟨n3,hn3⟩:=gNz (addP q o2.val.n n2 (o2.preds.take m));have HN3:Hid (addP q o2.val.n n2 (o2.preds.take m)=n3):=hn3;rw[hn3] at HM;clear hn3;obtain⟨v0,-,-,-,-,-,-,-,-,-,-,-,v12,-⟩:=cLs HM.out.1;by_cases hml:m<pn2
             ·have hml2:m<o2.preds.length:=by rw[HPN2.out.1];exact hml
              obtain⟨pb2,po2,rfl,hpb,hpc⟩:=HP24.out (fun e=>by rw[e] at hml2;simp at hml2);obtain⟨p,hp⟩:=gNz (o2.preds[m]:Pr);have hbw:Below w.heap.size w wr:=(HR.out.2.2.next HM.out.2.2.2).b;have t0:wr.cell? ⟨pb2,po2+m*2,none⟩=some (.int .i64 p.1):=by rw[hbw.cell (p:=⟨pb2,po2+m*2,none⟩) hpb,(hpc m hml2).1,hp]
              have t1:wr.cell? ⟨pb2,po2+m*2+1,none⟩=some (.int .i64 p.2):=by rw[hbw.cell (p:=⟨pb2,po2+m*2+1,none⟩) hpb,(hpc m hml2).2,hp]
              obtain⟨-,-,-,-,-,-,-,-,-,-,-,-,-,s0,s1,-⟩:=cLs HM.out.2.2.1;have i1:(m:Int)<pn2:=by omega
              have i2:(0:Int)≤m:=by omega
              have HI3:Hid ((m:Int)<8796093022208):=by have:=HPN2.out;show _<_;omega
              have EQ:=eqD p q;obtain⟨sb,hsb⟩:=gNz (samePr p q:Bool);rw[hsb] at EQ;have HS:Hid (addP q o2.val.n n2 (o2.preds.take (m+1))=if sb then wrap64 (n3+o2.val.n) else n3):=by
               show _=_;rw[List.take_add_one,List.getElem?_eq_getElem hml2,hp,←HN3.out,←hsb];unfold addP;rw[Option.toList_some,List.foldl_append];rfl
              have HML:Hid (m<pn2):=hml;clear hml hml2 hm hpb hpc hp hsb hbw;go_upto_region 23 with fail
              refine rNh (fun W=>W.cell? ⟨ob,12,none⟩=some (.slice (some ⟨pb2,po2,none⟩) pn2 pc2)∧W.cell? ⟨pb2,po2+m*2,none⟩=some (.int .i64 p.1)∧W.cell? ⟨pb2,po2+m*2+1,none⟩=some (.int .i64 p.2)∧W.cell? ⟨wo.heap.size,13,none⟩=some (.int .i64 q.1)∧W.cell? ⟨wo.heap.size,14,none⟩=some (.int .i64 q.2)) (⟨v12,t0,t1,s0,s1⟩) (fun hHeld=>?_);refine tk 0 rfl ?_ (by intro wz hSw;obtain⟨z0,z1,z2,z3,z4⟩:=hSw;go_simp;try with_reducible rfl);refine tk 1 rfl ?_ (by intro wz hSw;obtain⟨z0,z1,z2,z3,z4⟩:=hSw;go_simp;try with_reducible rfl);refine tk 2 rfl ?_ (by intro wz hSw;obtain⟨z0,z1,z2,z3,z4⟩:=hSw;go_simp;try with_reducible rfl);refine tk 3 rfl ?_ (by intro wz hSw;obtain⟨z0,z1,z2,z3,z4⟩:=hSw;go_simp;try with_reducible rfl);refine tk 4 rfl ?_ (by intro wz hSw;obtain⟨z0,z1,z2,z3,z4⟩:=hSw;go_simp;try with_reducible rfl);refine tk 5 rfl ?_ (by intro wz hSw;obtain⟨z0,z1,z2,z3,z4⟩:=hSw;go_simp;try with_reducible rfl);refine tk 6 rfl ?_ (by intro wz hSw;obtain⟨z0,z1,z2,z3,z4⟩:=hSw;go_simp;try with_reducible rfl);refine tk 7 rfl ?_ (by intro wz hSw;obtain⟨z0,z1,z2,z3,z4⟩:=hSw;go_simp;try with_reducible rfl);refine wDn ?_;have HMD:Hid (wr.drew.heap[ob]?=some (.cells #[.int .i64 4,.int .i64 o2.obj.1,.int .i64 o2.obj.2,.string o2.key,.int .i64 o2.elem.1,.int .i64 o2.elem.2,.bool o2.ins,.int .i64 o2.val.k,.int .i64 o2.val.n,.string o2.val.t,.int .i64 o2.val.o,.int .i64 o2.val.a,.slice (some ⟨pb2,po2,none⟩) pn2 pc2] 62)∧wr.drew.heap[xb]?=some (.cells #[.int .i64 xk,.int .i64 n3,.string xt,.int .i64 xo,.int .i64 xa] 59)∧wr.drew.heap[wo.heap.size]?=some (.cells #[.int .i64 o.kind,.int .i64 o.obj.1,.int .i64 o.obj.2,.string o.key,.int .i64 o.elem.1,.int .i64 o.elem.2,.bool o.ins,.int .i64 o.val.k,.int .i64 o.val.n,.string o.val.t,.int .i64 o.val.o,.int .i64 o.val.a,.slice pa pn pc,.int .i64 q.1,.int .i64 q.2] 131)∧Below wo.heap.size wo wr.drew):=⟨HM.out.1,HM.out.2.1,HM.out.2.2.1,drew_of HM.out.2.2.2⟩
              clear hHeld v0 v12 t0 t1 s0 s1 EQ i1 i2 HM;generalize wr.drew=wd at *;cases sb with
              | true=>
               obtain⟨-,f1,-⟩:=cLs HMD.out.2.1;obtain⟨-,-,-,-,-,-,-,-,f8,-⟩:=cLs HMD.out.1;have kf:=fRz HMD.out.2.1;have HNXT:Hid ((wd.setCell ⟨xb,1,none⟩ (.int .i64 (wrap64 (n3+o2.val.n)))).heap[ob]?=some (.cells #[.int .i64 4,.int .i64 o2.obj.1,.int .i64 o2.obj.2,.string o2.key,.int .i64 o2.elem.1,.int .i64 o2.elem.2,.bool o2.ins,.int .i64 o2.val.k,.int .i64 o2.val.n,.string o2.val.t,.int .i64 o2.val.o,.int .i64 o2.val.a,.slice (some ⟨pb2,po2,none⟩) pn2 pc2] 62)∧(wd.setCell ⟨xb,1,none⟩ (.int .i64 (wrap64 (n3+o2.val.n)))).heap[xb]?=some (.cells #[.int .i64 xk,.int .i64 (wrap64 (n3+o2.val.n)),.string xt,.int .i64 xo,.int .i64 xa] 59)∧(wd.setCell ⟨xb,1,none⟩ (.int .i64 (wrap64 (n3+o2.val.n)))).heap[wo.heap.size]?=some (.cells #[.int .i64 o.kind,.int .i64 o.obj.1,.int .i64 o.obj.2,.string o.key,.int .i64 o.elem.1,.int .i64 o.elem.2,.bool o.ins,.int .i64 o.val.k,.int .i64 o.val.n,.string o.val.t,.int .i64 o.val.o,.int .i64 o.val.a,.slice pa pn pc,.int .i64 q.1,.int .i64 q.2] 131)∧Below wo.heap.size wo (wd.setCell ⟨xb,1,none⟩ (.int .i64 (wrap64 (n3+o2.val.n))))):=by
                refine⟨heap_set_other HMD.out.1 (cells_apart HMD.out.1 HMD.out.2.1 (by decide)),?_,heap_set_other HMD.out.2.2.1 (cells_apart HMD.out.2.2.1 HMD.out.2.1 (by decide)),HMD.out.2.2.2.setCell HXB.out _⟩;rw[set_at HMD.out.2.1 1 _];rfl
               have HS1:Hid (addP q o2.val.n n2 (o2.preds.take (m+1))=wrap64 (n3+o2.val.n)):=HS.out;clear HS;go_upto_region 22 with fail
               have i3:=HI3.out;go_wp2;go_roundw
               case rel=>exact⟨m+1,HML.out,by go_num,by rw[HS1.out];exact HNXT.out⟩
               case measure=>have:=HML.out;simp[RowKit.intOf];omega
              | false=>
               have HS1:Hid (addP q o2.val.n n2 (o2.preds.take (m+1))=n3):=HS.out;clear HS;go_upto_region 22 with fail
               have i3:=HI3.out;go_wp2;go_roundw
               case rel=>exact⟨m+1,HML.out,by go_num,by rw[HS1.out];exact HMD.out⟩
               case measure=>have:=HML.out;simp[RowKit.intOf];omega
             ·have i1:¬(m:Int)<pn2:=by omega
              have HALL:Hid (addM ((keM l).take (k2+1)) q xn=n3):=by
               show _=_;rw[HN4.out,←HN3.out,List.take_of_length_le (by have:=HPN2.out.1;omega)]
              clear hml hm;go_upto_region 18 with fail
              have g22:=HG22.out;go_wp2;go_roundw
              case rel=>exact⟨k2+1,HLT2.out,by go_num,by rw[HALL.out];exact HM.out.2⟩
              case measure=>have:=HLT2.out;simp[RowKit.intOf];omega
           ·have HN4:Hid (addM ((keM l).take (k2+1)) q xn=n2):=by
             show _=_;rw[HNX2.out];exact if_neg h24
            have hd2:(o2.kind==4)=false:=by simpa using h24
            clear h24 HNX2;go_wp2_with fail;go_loopw [20] (fun i wx=>i=.int .i64 0∧wx=wj) (fun _ _=>0)
            case atStart=>exact⟨rfl,rfl⟩
            case round=>
             obtain⟨rfl,hw⟩:=hrel;replace hw:=hw.symm;subst hw;have v0:wj.cell? ⟨ob,0,none⟩=some (.int .i64 o2.kind):=cLo HO2X.out.1 0;go_upto_region 18 with fail
             have g22:=HG22.out;go_wp2;go_roundw
             case rel=>exact⟨k2+1,HLT2.out,by go_num,by rw[HN4.out];exact HO2X.out.2⟩
             case measure=>have:=HLT2.out;simp[RowKit.intOf];omega
          ·have g21:¬(k2:Int)<kn:=by omega
           have hkk:(keM l).take k2=keM l:=List.take_of_length_le (by rw[keM_len];have:=HKN.out.1;omega);have HFIN:Hid (wi.heap[xb]?=some (.cells (vc (valAt (keM l) (o,q))).toArray 59)∧wi.heap[wo.heap.size]?=some (.cells #[.int .i64 o.kind,.int .i64 o.obj.1,.int .i64 o.obj.2,.string o.key,.int .i64 o.elem.1,.int .i64 o.elem.2,.bool o.ins,.int .i64 o.val.k,.int .i64 o.val.n,.string o.val.t,.int .i64 o.val.o,.int .i64 o.val.a,.slice pa pn pc,.int .i64 q.1,.int .i64 q.2] 131)∧Below wo.heap.size wo wi):=by
            have e:valAt (keM l) (o,q)=⟨xk,n2,xt,xo,xa⟩:=by
             unfold valAt;rw[HVO.out,if_pos H4.out];have h:=HN2.out;rw[hkk] at h;rw[h]
            rw[e];exact HI.out
           clear hlt2 hk2 hkk;go_wp2;go_meet
           case rel=>exact HFIN.out
        ·have hd:(xk==4)=false:=by simpa using h4
         have HFIN:Hid (wc.heap[xb]?=some (.cells (vc (valAt (keM l) (o,q))).toArray 59)∧wc.heap[wo.heap.size]?=some (.cells #[.int .i64 o.kind,.int .i64 o.obj.1,.int .i64 o.obj.2,.string o.key,.int .i64 o.elem.1,.int .i64 o.elem.2,.bool o.ins,.int .i64 o.val.k,.int .i64 o.val.n,.string o.val.t,.int .i64 o.val.o,.int .i64 o.val.a,.slice pa pn pc,.int .i64 q.1,.int .i64 q.2] 131)∧Below wo.heap.size wo wc):=by
          have e:valAt (keM l) (o,q)=⟨xk,xn,xt,xo,xa⟩:=by unfold valAt;rw[HVO.out];exact if_neg h4
          rw[e];exact HXC.out
         rw[hd];clear h4 hd;go_wp2;go_meet
         case rel=>exact HFIN.out
       case rest=>
        obtain⟨X,hX⟩:=gNz (valAt (keM l) (o,q):V);have HXF:Hid (_∧_∧_):=hcut.out;rw[hX] at HXF;obtain⟨R,hR⟩:=gNz (atM (keM l) (keM (l.take k)) obj key el);have HNXT:Hid (atM (keM l) (keM (l.take (k+1))) obj key el=insAt R (X,q)):=by
         show _=_;rw[at_next HQ.out,HOK.out,if_pos rfl,hX,hR]
        have HRR:Hid (rn=R.length∧RowsR w (.slice a1 rn c1) (.slice a2 rn c2) R wo∧AB w (.slice (some ⟨kb,ko,none⟩) kn kc) obj key el pb wo):=by
         have:=HR.out;rw[hR] at this;exact this
        have HRL:Hid (R.length<1000000):=by
         have h1:=atM_len (keM l) obj key el (keM (l.take k));rw[hR,keM_len,List.length_take] at h1;have:=HKN.out;have:=HLT.out;show _<_;omega
        clear hcut hX hR HR HXC HVO HOK HQ;obtain⟨wv,hwv⟩:∃x:World,x=wc:=⟨wc,rfl⟩
        subst hwv;go_upto_block 6 with fail
        go_cut [21] from 110 to 124 (fun i wx=>∃m:Nat,i=.int .i64 (m:Int)∧Hid (m=spot R q∧m≤rn∧Below wv.heap.size wv wx))
        case first=>
         go_wp2_with fail;go_loopw [21] (fun i wx=>∃m:Nat,m≤rn∧i=.int .i64 (m:Int)∧Hid ((∀j (hj:j<R.length),j<m→lessB q.1 q.2 R[j].2.1 R[j].2.2=true)∧Below wv.heap.size wv wx)) (fun i _=>rn - (RowKit.intOf i).toNat)
         case atStart=>exact⟨0,Nat.zero_le _,rfl,fun j _ hj=>absurd hj (Nat.not_lt_zero _),Below.refl _ _⟩
         case round=>
          obtain⟨m,hm,rfl,HM⟩:=hrel;have HI3:Hid ((m:Int)<10000000∧rn=R.length):=⟨by have:=HRR.out.1;have:=HRL.out;omega,HRR.out.1⟩
          by_cases hml:m<rn
          ·have hmR:m<R.length:=by have:=HRR.out.1;omega
           obtain⟨y,hy⟩:=gNz (R[m]:V×Pr);have hbo:Below wo.heap.size wo wr:=HXF.out.2.2.trans (HM.out.2.mono HXF.out.2.2.size);obtain⟨b2,rfl,j0,j1⟩:=rid_at (own_below HRR.out.2.1.2 hbo lRf) hmR hy;have hob:=heap_below HXF.out.2.1 HM.out.2 lRf;obtain⟨-,-,-,-,-,-,-,-,-,-,-,-,-,s0,s1,-⟩:=cLs hob;have i1:(m:Int)<rn:=by omega
           have i2:(0:Int)≤m:=by omega
           obtain⟨lb,hlb⟩:=gNz (lessB q.1 q.2 y.2.1 y.2.2:Bool);have LS:=rLess_any q.1 q.2 y.2.1 y.2.2 wr.drew;rw[hlb] at LS;have HLB:Hid (∃h:m<R.length,lessB q.1 q.2 R[m].2.1 R[m].2.2=lb):=⟨hmR,by rw[hy];exact hlb⟩
           have HML:Hid (m<rn):=hml;have HDR:Hid (Below wv.heap.size wv wr.drew):=drew_of HM.out.2;clear hml hm hmR hy hbo hob hlb;go_upto_region 26 with fail
           refine rNh (fun W=>W.cell? ⟨b2,m*2,none⟩=some (.int .i64 y.2.1)∧W.cell? ⟨b2,m*2+1,none⟩=some (.int .i64 y.2.2)∧W.cell? ⟨wo.heap.size,13,none⟩=some (.int .i64 q.1)∧W.cell? ⟨wo.heap.size,14,none⟩=some (.int .i64 q.2)) (⟨j0,j1,s0,s1⟩) (fun hHeld=>?_);refine tk 0 rfl ?_ (by intro wz hSw;obtain⟨z0,z1,z2,z3⟩:=hSw;go_simp;try with_reducible rfl);refine tk 1 rfl ?_ (by intro wz hSw;obtain⟨z0,z1,z2,z3⟩:=hSw;go_simp;try with_reducible rfl);refine tk 2 rfl ?_ (by intro wz hSw;obtain⟨z0,z1,z2,z3⟩:=hSw;go_simp;try with_reducible rfl);refine tk 3 rfl ?_ (by intro wz hSw;obtain⟨z0,z1,z2,z3⟩:=hSw;go_simp;try with_reducible rfl);refine tk 4 rfl ?_ (by intro wz hSw;obtain⟨z0,z1,z2,z3⟩:=hSw;go_simp;try with_reducible rfl);refine tk 5 rfl ?_ (by intro wz hSw;obtain⟨z0,z1,z2,z3⟩:=hSw;go_simp;try with_reducible rfl);refine tk 6 rfl ?_ (by intro wz hSw;obtain⟨z0,z1,z2,z3⟩:=hSw;go_simp;try with_reducible rfl);refine tk 7 rfl ?_ (by intro wz hSw;obtain⟨z0,z1,z2,z3⟩:=hSw;go_simp;try with_reducible rfl);refine tk 8 rfl ?_ (by intro wz hSw;obtain⟨z0,z1,z2,z3⟩:=hSw;go_simp;try with_reducible rfl);refine tk 9 rfl ?_ (by intro wz hSw;obtain⟨z0,z1,z2,z3⟩:=hSw;go_simp;try with_reducible rfl);refine tk 10 rfl ?_ (by intro wz hSw;obtain⟨z0,z1,z2,z3⟩:=hSw;go_simp;try with_reducible rfl);refine ts 11 rfl (fun K hK=>?_);go_simp;go_at_call 133;refine LS.mono ?_;rintro e w5 ⟨rfl,hb5⟩;go_wp2_with fail;refine hK.out _ _ (keep4h hHeld hb5) (fun hH5=>?_);clear hK K LS;try simp only[Act.put,nm]
           refine tk 12 rfl ?_;refine wDn ?_;have HB5:Hid (Below wv.heap.size wv w5):=HDR.out.trans (hb5.mono HDR.out.size);clear hHeld hH5 hb5 j0 j1 s0 s1 i1 i2 HDR;cases lb with
           | true=>
            have HNX:Hid (∀j (hj:j<R.length),j<m+1→lessB q.1 q.2 R[j].2.1 R[j].2.2=true):=fun j hj hjm=>by
             obtain⟨h,hs⟩:=HLB.out;rcases Nat.lt_or_ge j m with h1 | h1
             ·exact HM.out.1 j hj h1
             ·obtain rfl:j=m:=by omega
              exact hs
            go_upto_region 27 with fail
            have i3:=HI3.out.1;go_wp2;go_roundw
            case rel=>exact⟨m+1,HML.out,by go_num,HNX.out,HB5.out⟩
            case measure=>have:=HML.out;simp[RowKit.intOf];omega
           | false=>
            have HSP:Hid (m=spot R q∧m≤rn∧Below wv.heap.size wv w5):=⟨(spot_go (by have:=HML.out;have:=HI3.out.2;omega) HM.out.1 (fun hk=>by obtain⟨h,hs⟩:=HLB.out;exact hs)).symm,Nat.le_of_lt HML.out,HB5.out⟩
            go_wp2;go_meet
            case rel=>exact⟨m,rfl,HSP.out⟩
          ·have i1:¬(m:Int)<rn:=by omega
           have HSP:Hid (m=spot R q∧m≤rn∧Below wv.heap.size wv wr.drew):=⟨(spot_go (by have:=HI3.out.2;omega) HM.out.1 (fun hk=>by have:=HI3.out.2;omega)).symm,hm,drew_of HM.out.2⟩
           clear hml hm;go_upto_region 26 with fail
           refine rNh (fun W=>Below wr.heap.size wr W) ((Below.refl _ _).drew) (fun hHeld=>?_);refine tk 0 rfl ?_;refine tk 1 rfl ?_;refine tk 2 rfl ?_;refine tk 3 rfl ?_;refine tk 4 rfl ?_;refine sk 5 rfl ?_;refine sk 6 rfl ?_;refine sk 7 rfl ?_;refine sk 8 rfl ?_;refine sk 9 rfl ?_;refine sk 10 rfl ?_;refine sk 11 rfl ?_;refine tk 12 rfl ?_;refine wDn ?_;clear hHeld;go_wp2;go_meet
           case rel=>exact⟨m,rfl,HSP.out⟩
        case rest=>
         obtain⟨m,rfl,HSP⟩:=hcut;obtain⟨xk,xn,xt,xo,xa⟩:=X;have hsz:w.heap.size≤wc.heap.size:=Nat.le_trans HRR.out.2.2.b.size (Nat.le_trans HXF.out.2.2.size HSP.out.2.2.size);have hbo:Below wo.heap.size wo wc:=HXF.out.2.2.trans (HSP.out.2.2.mono HXF.out.2.2.size);have rV:wc.ownsRow w.heap.size 59 5 (.slice a1 rn c1) R.length (vcl R):=own_below HRR.out.2.1.1 hbo lRf;have rI:wc.ownsRow w.heap.size 49 2 (.slice a2 rn c2) R.length (icl R):=own_below HRR.out.2.1.2 hbo lRf;have hmR:m≤R.length:=by have:=HSP.out.2.1;have:=HRR.out.1;omega
         have hxb:=heap_below HXF.out.1 HSP.out.2.2 lRf;have hob:=heap_below HXF.out.2.1 HSP.out.2.2 lRf;have HAc:Hid (AB w (.slice (some ⟨kb,ko,none⟩) kn kc) obj key el pb wc):=HRR.out.2.2.next hbo;obtain⟨kv1,hkv1⟩:=gNz (Value.slice a1 rn c1:Value);obtain⟨kv2,hkv2⟩:=gNz (Value.slice a2 rn c2:Value);rw[hkv1] at rV;rw[hkv2] at rI;obtain⟨u1,u3,hcp1⟩:=cut_gen ofV rV m hmR;obtain⟨u2,u4,hcp2⟩:=cut_gen ofI rI m hmR;have hsl1:=hcp1.lo;have hsl3:=hcp1.hi;have hsl2:=hcp2.lo;have hsl4:=hcp2.hi;have U1:=hcp1.at1;have U3:=hcp1.at2;have U2:=hcp2.at1;have U4:=hcp2.at2;rw[(vcl_take R m hmR).1] at U1;rw[(vcl_take R m hmR).2] at U3;rw[(icl_take R m hmR).1] at U2;rw[(icl_take R m hmR).2] at U4;have lt:(R.take m).length=m:=by rw[List.length_take,Nat.min_eq_left hmR]
         have ld:(R.drop m).length=R.length - m:=List.length_drop;have hm1:m<1000000:=by have:=HRL.out;omega
         obtain⟨v1,W1,q1,r1,gr1,g1'⟩:=app_gen ofV 134 wc wc.heap.size lRf (.slice none 0 0) _ 0 m [] _ (World.ownsRow_nil _ _ _ _) U1 (by rw[vcl_len,lt]) (vcl_one _) (by omega);have bw1:Below wc.heap.size wc W1:=(Below.refl _ _).grown gr1 lRf (fun t e=>by cases e);obtain⟨n1,W2,q2,r2,gr2,g2'⟩:=app_gen ofI 50 W1 wc.heap.size bw1.size (.slice none 0 0) _ 0 m [] _ (World.ownsRow_nil _ _ _ _) (U2.below bw1) (by rw[icl_len,lt]) (icl_one _) (by omega);have bg2:Below W1.heap.size W1 W2:=(Below.refl _ _).grown gr2 lRf (fun t e=>by cases e);have bw2:Below wc.heap.size wc W2:=bw1.trans (bg2.mono bw1.size);have hA:=heap_alloc_new W2 (.cells #[.int .i64 xk,.int .i64 xn,.string xt,.int .i64 xo,.int .i64 xa] 59);have bA:Below W2.heap.size W2 (W2.alloc (.cells #[.int .i64 xk,.int .i64 xn,.string xt,.int .i64 xo,.int .i64 xa] 59)):=bAl _ _;have bwA:=bw2.trans (bA.mono bw2.size);have r1A:=own_below (own_below r1 bg2 lRf) bA lRf;have r2A:=own_below r2 bA lRf;obtain⟨v2,W3,q3,r3,gr3,g3'⟩:=app_gen ofV 134 _ wc.heap.size bwA.size v1 (.slice (some ⟨W2.heap.size,0,none⟩) 1 1) _ 1 _ (vc ⟨xk,xn,xt,xo,xa⟩) r1A (UAt.box (k:=5) hA rfl) rfl (fun y hy=>vcl_one [(⟨xk,xn,xt,xo,xa⟩,q)] y (by simpa [vcl] using hy)) (by omega);have bw3:Below wc.heap.size wc W3:=bwA.grown gr3 bwA.size (fun t e=>(r1A.lt t e).1);have r2B:=row_other r2A r1A (by decide) gr3;have hB:=heap_alloc_new W3 (.cells #[.int .i64 q.1,.int .i64 q.2] 49);have bB:Below W3.heap.size W3 (W3.alloc (.cells #[.int .i64 q.1,.int .i64 q.2] 49)):=bAl _ _;have bwB:=bw3.trans (bB.mono bw3.size);have r3B:=own_below r3 bB lRf;have r2C:=own_below r2B bB lRf;obtain⟨n2,W4,q4,r4,gr4,g4'⟩:=app_gen ofI 50 _ wc.heap.size bwB.size n1 (.slice (some ⟨W3.heap.size,0,none⟩) 1 1) _ 1 _ [.int .i64 q.1,.int .i64 q.2] r2C (UAt.box (k:=2) hB rfl) rfl (fun y hy=>icl_one [(⟨xk,xn,xt,xo,xa⟩,q)] y (by simpa [icl] using hy)) (by omega);have bw4:Below wc.heap.size wc W4:=bwB.grown gr4 bwB.size (fun t e=>(r2C.lt t e).1);have r3C:=row_other r3B r2C (by decide) gr4;obtain⟨v3,W5,q5,r5,gr5,g5'⟩:=app_gen ofV 134 W4 wc.heap.size bw4.size v2 u3 _ (R.length - m) _ _ r3C (U3.below bw4) (by rw[vcl_len,ld]) (vcl_one _) (by have:=HRL.out;omega);have bw5:Below wc.heap.size wc W5:=bw4.grown gr5 bw4.size (fun t e=>(r3C.lt t e).1);have r4B:=row_other r4 r3C (by decide) gr5;obtain⟨n3,W6,q6,r6,gr6,g6'⟩:=app_gen ofI 50 W5 wc.heap.size bw5.size n2 u4 _ (R.length - m) _ _ r4B (U4.below bw5) (by rw[icl_len,ld]) (icl_one _) (by have:=HRL.out;omega);have bw6:Below wc.heap.size wc W6:=bw5.grown gr6 bw5.size (fun t e=>(r4B.lt t e).1);have r5B:=row_other r5 r4B (by decide) gr6;have hins:insAt R (⟨xk,xn,xt,xo,xa⟩,q)=R.take m++(⟨xk,xn,xt,xo,xa⟩,q)::R.drop m:=by unfold insAt;rw[HSP.out.1]
         have hlen:0+m+1+(R.length - m)=(insAt R (⟨xk,xn,xt,xo,xa⟩,q)).length:=by rw[insAt_len];omega
         have hvc:[]++vcl (R.take m)++vc ⟨xk,xn,xt,xo,xa⟩++vcl (R.drop m)=vcl (insAt R (⟨xk,xn,xt,xo,xa⟩,q)):=by rw[hins];simp[vcl]
         have hic:[]++icl (R.take m)++[.int .i64 q.1,.int .i64 q.2]++icl (R.drop m)=icl (insAt R (⟨xk,xn,xt,xo,xa⟩,q)):=by rw[hins];simp[icl]
         rw[hvc] at r5B;rw[hic] at r6;obtain⟨a3,c3,e3⟩:=own_form r5B;obtain⟨a4,c4,e4⟩:=own_form r6;obtain⟨r9,hr9⟩:=gNz (0+m+1+(R.length - m));rw[hr9] at r5B r6 hlen e3 e4;subst e3 e4;have HNEW:Hid (r9=(atM (keM l) (keM (l.take (k+1))) obj key el).length∧RowsR w (.slice a3 r9 c3) (.slice a4 r9 c4) (atM (keM l) (keM (l.take (k+1))) obj key el) W6∧AB w (.slice (some ⟨kb,ko,none⟩) kn kc) obj key el pb W6):=by
          rw[HNXT.out];exact⟨hlen,⟨by rw[←hlen];exact own_mono r5B hsz,by rw[←hlen];exact own_mono r6 hsz⟩,HAc.out.next bw6⟩
         have x0:=cLo (heap_below hxb bw2 lRf) 0;have x1:=cLo (heap_below hxb bw2 lRf) 1;have x2:=cLo (heap_below hxb bw2 lRf) 2;have x3:=cLo (heap_below hxb bw2 lRf) 3;have x4:=cLo (heap_below hxb bw2 lRf) 4;have o13:=cLo (heap_below hob bw3 lRf) 13;have o14:=cLo (heap_below hob bw3 lRf) 14;change W2.cell? ⟨xb,0,none⟩=some (.int .i64 xk) at x0;change W2.cell? ⟨xb,1,none⟩=some (.int .i64 xn) at x1;change W2.cell? ⟨xb,2,none⟩=some (.string xt) at x2;change W2.cell? ⟨xb,3,none⟩=some (.int .i64 xo) at x3;change W2.cell? ⟨xb,4,none⟩=some (.int .i64 xa) at x4;change W3.cell? ⟨wo.heap.size,13,none⟩=some (.int .i64 q.1) at o13;change W3.cell? ⟨wo.heap.size,14,none⟩=some (.int .i64 q.2) at o14;clear hsz hbo rV rI hmR hxb hob U1 U2 U3 U4 lt ld r1 r2 r3 r4 r5 r6 gr1 gr2 gr3 gr4 gr5 gr6 g1' g2' g3' g4' g5' g6' bw1 bg2 bw2 hA bA bwA r1A r2A bw3 r2B hB bB bwB r3B r2C bw4 r3C bw5 r4B bw6 r5B hins hlen hvc hic hr9 hm1 hcp1 hcp2 HAc;rw[hkv1,hkv2];clear hkv1 hkv2;go_upto_region 6 with(first
          | (at_builtin;refine wp_app rfl _ _ 134 rfl _ _ _ rfl rfl q1 ?_;clear q1)
          | (at_builtin;refine wp_app rfl _ _ 50 rfl _ _ _ rfl rfl q2 ?_;clear q2)
          | (at_builtin;refine wp_app rfl _ _ 134 rfl _ _ _ rfl rfl q3 ?_;clear q3)
          | (at_builtin;refine wp_app rfl _ _ 50 rfl _ _ _ rfl rfl q4 ?_;clear q4)
          | (at_builtin;refine wp_app rfl _ _ 134 rfl _ _ _ rfl rfl q5 ?_;clear q5)
          | (at_builtin;refine wp_app rfl _ _ 50 rfl _ _ _ rfl rfl q6 ?_;clear q6))
         clear x0 x1 x2 x3 x4 o13 o14 hsl1 hsl2 hsl3 hsl4;have g2:=HG2.out;go_wp2;go_roundw
         case rel=>exact⟨k+1,r9,a3,c3,a4,c4,HLT.out,by go_num,rfl,rfl,HNEW.out⟩
         case measure=>have:=HLT.out;simp[RowKit.intOf];omega
  ·have g1:¬(k:Int)<kn:=by omega
   have hall:l.take k=l:=List.take_of_length_le (by have:=HKN.out.1;omega);have HEND:Hid (post (.returned (.tuple #[.slice a1 rn c1,.slice a2 rn c2])) wo):=by
    show post _ _;rw[HPO.out];have h1:=HR.out;rw[hall] at h1;exact⟨_,_,rfl,h1.2.1,h1.2.2.b⟩
   clear hlt hk hall;go_wp2;exact HEND.out
end Go.Proofs.YtamhlgflbacjgaaGreat
