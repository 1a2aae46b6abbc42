/-
  What is proved: as each theorem says.
  Conditions: as each theorem says.
-/
import Derived.Test.YtamhlgflbacjgaaGreatF00
import Derived.Test.YtamhlgflbacjgaaGreatF22
import Derived.Test.YtamhlgflbacjgaaGreatF20
import Derived.Test.YtamhlgflbacjgaaGreatF21
set_option maxRecDepth 100000
set_option maxHeartbeats 16000000
namespace Go.Proofs.YtamhlgflbacjgaaGreat
open Go.RowKit
theorem chk_zero (c:Chg):chk c=0↔refB (c.actor,c.seq)=true∧(1≤c.start∧c.start≤1000000)∧c.deps.length≤12∧refsC c.deps=0∧c.ops.length≤40∧c.start+c.ops.length - 1≤1000000∧∀i (h:i<c.ops.length),chkOp c.ops[i]=0:=by
 have hops:chkOps c.ops=0↔∀i (h:i<c.ops.length),chkOp c.ops[i]=0:=by
  constructor
  ·exact fun h i hi=>chkOps_all h _ (List.getElem_mem hi)
  ·intro h;refine chkOps_none _ fun o ho=>?_;obtain⟨i,hi,rfl⟩:=List.getElem_of_mem ho;exact h i hi
 have hh:chkHead c=0↔refB (c.actor,c.seq)=true∧(1≤c.start∧c.start≤1000000)∧c.deps.length≤12∧refsC c.deps=0∧c.ops.length≤40∧c.start+c.ops.length - 1≤1000000:=by
  unfold chkHead refB;dsimp only;have e3:fromB c.start 1000000=true↔1≤c.start∧c.start≤1000000:=by unfold fromB;rw[decide_eq_true_eq]
  rw[←e3];cases fromB c.actor 99 with
  | false=>simp
  | true=>
   cases fromB c.seq 1000000 with
   | false=>simp
   | true=>
    cases fromB c.start 1000000 with
    | false=>simp
    | true=>
     rw[if_pos (by simp)];by_cases h1:12<c.deps.length
     ·rw[if_pos h1];constructor
      ·intro e;cases e
      ·rintro⟨_,_,h,_⟩;omega
     ·rw[if_neg h1];by_cases h2:refsC c.deps=0
      ·rw[if_pos h2];by_cases h3:40<c.ops.length
       ·rw[if_pos h3];constructor
        ·intro e;cases e
        ·rintro⟨_,_,_,_,h,_⟩;omega
       ·rw[if_neg h3];by_cases h4:1000000<c.start+c.ops.length - 1
        ·rw[if_pos h4];constructor
         ·intro e;cases e
         ·rintro⟨_,_,_,_,_,h⟩;omega
        ·rw[if_neg h4];exact⟨fun _=>⟨by simp,rfl,by omega,h2,by omega,by omega⟩,fun _=>rfl⟩
      ·rw[if_neg h2];constructor
       ·intro e;exact absurd e h2
       ·rintro⟨_,_,_,h,_⟩;exact absurd h h2
 unfold chk;by_cases h0:chkHead c=0
 ·rw[if_pos h0,hops];obtain⟨a1,a2,a3,a4,a5,a6⟩:=hh.1 h0;exact⟨fun h=>⟨a1,a2,a3,a4,a5,a6,h⟩,fun⟨_,_,_,_,_,_,h⟩=>h⟩
 ·rw[if_neg h0];exact⟨fun e=>absurd e h0,fun⟨a1,a2,a3,a4,a5,a6,_⟩=>absurd (hh.2 ⟨a1,a2,a3,a4,a5,a6⟩) h0⟩
theorem rChange_any (v:Value) (c:Chg) (w:World) (hv:IsChg w v c):
 Calls Tryz.prog 64 #[v] w fun e w'=>(∃x,e=.returned (.int .i64 x)∧(x=0↔chk c=0))∧Below w.heap.size w w':=by
 obtain⟨ud,uo,l,rfl,i1,i2,i3,hd,ho,hl⟩:=hv;have HLN:Hid (l.length=c.ops.length):=by show _=_;rw[←hl,List.length_map]
 have HL0:Hid (l.map (·.1)=c.ops):=hl;have HZ:Hid (chk c=0↔_):=chk_zero c;have BA:Below w.heap.size w (w.alloc (.cells #[.int .i64 c.actor,.int .i64 c.seq,.int .i64 c.start,ud,uo] 33)):=bAl w _;have hbx:(w.alloc (.cells #[.int .i64 c.actor,.int .i64 c.seq,.int .i64 c.start,ud,uo] 33)).heap[w.heap.size]?=some (.cells #[.int .i64 c.actor,.int .i64 c.seq,.int .i64 c.start,ud,uo] 33):=(MapKept.heap_alloc w _).1;have HD:Hid (IsPairs w ud c.deps):=hd;obtain⟨ad,cd,rfl,-,hd2,-⟩:=id hd;obtain⟨ao,co,rfl,ho1,ho2,ho3',ho4'⟩:=id ho;have HO3:Hid (∀q∈l,IsPairs w q.2 q.1.preds∧OpNums q.1):=ho3';have HO4:Hid (l≠[]→∃b off,ao=some ⟨b,off,none⟩∧b<w.heap.size∧∀i (h:i<l.length) j,j<13→w.cell? ⟨b,off+i*13+j,none⟩=(opCells l[i].1 l[i].2)[j]?):=ho4';clear ho3' ho4' ho hd hl;go_enter Tryz.func64,Tryz.ntmps64
 go_wp2_with fail;refine(rRef_any c.actor c.seq _).mono ?_;rintro e w1 ⟨rfl,b1⟩;have B1:Below w.heap.size w w1:=BA.trans (b1.mono BA.size);have X1:=heap_below hbx b1 lRf;obtain⟨-,-,z2,z3,-⟩:=cLs X1;clear hbx BA b1;cases hA:refB (c.actor,c.seq) with
 | false=>
  have HN:Hid (¬chk c=0):=by
   intro e;have:=(HZ.out.1 e).1;rw[hA] at this;cases this
  clear hA;go_wp2;go_ret;exact⟨⟨1,rfl,by simpa using HN.out⟩,B1⟩
 | true=>
 by_cases s1:c.start<1
 ·have HN:Hid (¬chk c=0):=by intro e;have:=(HZ.out.1 e).2.1;omega
  clear hA;go_wp2;go_ret;exact⟨⟨1,rfl,by simpa using HN.out⟩,B1⟩
 by_cases s2:1000000<c.start
 ·have HN:Hid (¬chk c=0):=by intro e;have:=(HZ.out.1 e).2.1;omega
  clear hA;go_wp2;go_ret;exact⟨⟨1,rfl,by simpa using HN.out⟩,B1⟩
 by_cases hdl:12<c.deps.length
 ·have HN:Hid (¬chk c=0):=by intro e;have:=(HZ.out.1 e).2.2.1;omega
  have g1:(12:Int)<c.deps.length:=by omega
  clear hA;go_wp2;go_ret;exact⟨⟨4,rfl,by simpa using HN.out⟩,B1⟩
 have g1:¬(12:Int)<c.deps.length:=by omega
 have HAH:Hid (refB (c.actor,c.seq)=true):=hA;clear hA;have K:=rClock_any _ _ w1 (HD.out.below B1);go_wp2_with fail;refine K.mono ?_;rintro e w2 ⟨⟨x,rfl,hx⟩,b2⟩;have B2:Below w.heap.size w w2:=B1.trans (b2.mono B1.size);have X2:=heap_below X1 b2 lRf;clear K b2 z2 z3 X1 B1 g1;obtain⟨-,-,z2,-,z4,-⟩:=cLs X2;by_cases hx0:x=0
 ·subst hx0;have HRF:Hid (refsC c.deps=0):=hx.1 rfl;clear hx;by_cases hol:40<l.length
  ·have HN:Hid (¬chk c=0):=by intro e;have:=(HZ.out.1 e).2.2.2.2.1;have:=HLN.out;omega
   have g2:(40:Int)<l.length:=by omega
   go_wp2;go_ret;exact⟨⟨4,rfl,by simpa using HN.out⟩,B2⟩
  have g2:¬(40:Int)<l.length:=by omega
  have wl:IntKind.i64.wrap (c.start+l.length)=c.start+l.length:=IntWalk.i64_in _ (by omega);have wl2:IntKind.i64.wrap (c.start+l.length - 1)=c.start+l.length - 1:=IntWalk.i64_in _ (by omega);by_cases hsl:1000000<c.start+l.length - 1
  ·have HN:Hid (¬chk c=0):=by intro e;have:=(HZ.out.1 e).2.2.2.2.2.1;have:=HLN.out;omega
   go_wp2;go_ret;exact⟨⟨1,rfl,by simpa using HN.out⟩,B2⟩
  have HZ2:Hid (chk c=0↔∀i (h:i<c.ops.length),chkOp c.ops[i]=0):=by
   show _↔_;rw[HZ.out];have e1:=HLN.out;constructor
   ·rintro⟨_,_,_,_,_,_,h⟩;exact h
   ·exact fun h=>⟨HAH.out,by omega,by omega,HRF.out,by omega,by omega,h⟩
  clear HZ HRF HAH;go_wp2_with fail;go_loopw [5] (fun i wr=>∃k:Nat,k≤l.length∧i=.int .i64 k∧(∀j (hj:j<k) (hj2:j<l.length),chkOp l[j].1=0)∧Below w.heap.size w wr∧wr.heap[w.heap.size]?=some (.cells #[.int .i64 c.actor,.int .i64 c.seq,.int .i64 c.start,.slice ad c.deps.length cd,.slice ao l.length co] 33)) (fun i _=>l.length - (RowKit.intOf i).toNat)
  case atStart=>exact⟨0,Nat.zero_le _,rfl,fun j hj=>by omega,B2,X2⟩
  case round=>
   clear B2 X2 z2 z4 wl wl2 g2;obtain⟨k,hk,rfl,hok,hbel,hX⟩:=hrel;have hz:=hbel.size;obtain⟨-,-,-,-,z4,-⟩:=cLs hX;by_cases hlt:k<l.length
   ·obtain⟨b,off,rfl,h4,h5⟩:=HO4.out (fun e=>by rw[e] at hlt;simp at hlt);have CL:∀j,j<13→wr.cell? ⟨b,off+k*13+j,none⟩=(opCells l[k].1 l[k].2)[j]?:=fun j hj=>by rw[hbel.cell (p:=⟨b,off+k*13+j,none⟩) h4];exact h5 k hlt j hj
    have hp:=(HO3.out l[k] (List.getElem_mem hlt)).1.below hbel;have hk2:k<c.ops.length:=by have:=HLN.out;omega
    have HLk:Hid (c.ops[k]=l[k].1):=by
     show _=_;simp only[←HL0.out,List.getElem_map]
    have HN:Hid (¬chkOp l[k].1=0→¬chk c=0):=by
     intro hne e;have:=HZ2.out.1 e k hk2;rw[HLk.out] at this;exact hne this
    have HA:Hid (chkOp l[k].1=0→∀j (hj:j<k+1) (hj2:j<l.length),chkOp l[j].1=0):=by
     intro h j hj hj2;by_cases e:j=k
     ·subst e;exact h
     ·exact hok j (by omega) hj2
    obtain⟨⟨o,vp⟩,hq⟩:∃q,l[k]=q:=⟨_,rfl⟩
    rw[hq] at CL hp HN HA;dsimp only at CL hp HN HA;have g1:(k:Int)<l.length:=by omega
    have x0:=CL 0 (by decide);have x1:=CL 1 (by decide);have x2:=CL 2 (by decide);have x3:=CL 3 (by decide);have x4:=CL 4 (by decide);have x5:=CL 5 (by decide);have x6:=CL 6 (by decide);have x7:=CL 7 (by decide);have x8:=CL 8 (by decide);have x9:=CL 9 (by decide);have x10:=CL 10 (by decide);have x11:=CL 11 (by decide);have x12:=CL 12 (by decide);unfold opCells at x0 x1 x2 x3 x4 x5 x6 x7 x8 x9 x10 x11 x12;simp only[Nat.add_zero,List.getElem?_cons_zero,List.getElem?_cons_succ] at x0 x1 x2 x3 x4 x5 x6 x7 x8 x9 x10 x11 x12;have K:=fun W h=>rOp_any o vp W h;unfold opVal opCells at K;have HX:Hid (wr.heap[w.heap.size]?=some (.cells #[.int .i64 c.actor,.int .i64 c.seq,.int .i64 c.start,.slice ad c.deps.length cd,.slice (some ⟨b,off,none⟩) l.length co] 33)):=hX;obtain⟨ap,cp,rfl,-⟩:=id hp;clear CL h5 hok hq HLk HO4 HO3 hX;go_wp2_with fail;refine(K _ hp).mono ?_;rintro e w2 ⟨⟨x,rfl,hx⟩,b2⟩;have B2:Below w.heap.size w w2:=hbel.trans (b2.mono hz);have HX2:Hid _:=heap_below HX.out b2 lRf;clear b2 hp K x0 x1 x2 x3 x4 x5 x6 x7 x8 x9 x10 x11 x12 z4;by_cases hne:x=0
    ·subst hne;have HA2:Hid _:=HA.out (hx.1 rfl);clear HA HN hx;go_wp2;go_roundw
     case rel=>exact⟨k+1,hlt,by go_num,HA2.out,B2,HX2.out⟩
     case measure=>simp[RowKit.intOf];omega
    ·have HD2:Hid (x=0↔chk c=0):=⟨fun e=>absurd e hne,fun e=>absurd e (HN.out (fun e2=>hne (hx.2 e2)))⟩
     have q0:(x==0)=false:=by rw[beq_eq_false_iff_ne];exact hne
     have q1:(x !=0)=true:=by rw[bne_iff_ne];exact hne
     clear HA HN hx;go_wp2;go_ret;exact⟨⟨x,rfl,HD2.out⟩,B2⟩
   ·have HN:Hid (chk c=0):=by
     show _=_;rw[HZ2.out];intro i hi;have e1:=HLN.out;have:=hok i (by omega) (by omega);simp only[←HL0.out,List.getElem_map];exact this
    have g1:¬(k:Int)<l.length:=by omega
    clear hok;go_wp2;go_ret;exact⟨⟨0,rfl,by simpa using HN.out⟩,hbel⟩
 ·have HD2:Hid (x=0↔chk c=0):=⟨fun e=>absurd e hx0,fun e=>absurd (hx.2 (HZ.out.1 e).2.2.2.1) hx0⟩
  have q0:(x==0)=false:=by rw[beq_eq_false_iff_ne];exact hx0
  have q1:(x !=0)=true:=by rw[bne_iff_ne];exact hx0
  clear hx;go_wp2;go_ret;exact⟨⟨x,rfl,HD2.out⟩,B2⟩
theorem encC_ne (c:Chg):encC c≠[]:=by
 intro h0;unfold encC at h0;have e5:encN [c.actor,c.seq,c.start,(c.deps.length:Int)]=put c.actor.toNat++encN [c.seq,c.start,(c.deps.length:Int)]:=by simp[encN]
 rw[e5] at h0;simp only[List.append_assoc] at h0;exact put_ne _ (List.append_eq_nil_iff.1 h0).1
theorem sameF_any (v u:Value) (c:Chg) (w:World) (hv:IsChg w v c) (hu:IsChg w u c) (h:ChgFit c):
 Calls Tryz.prog 43 #[v,u] w fun e w'=>e=.returned (.bool true)∧Below w.heap.size w w':=by
 have hv0:=hv;have hu0:=hu;obtain⟨ud,uo,l,rfl,-,-,-,hd,ho,-⟩:=hv;obtain⟨ad,cd,rfl,-⟩:=hd;obtain⟨ao,co,rfl,-⟩:=ho;obtain⟨ud',uo',l',rfl,-,-,-,hd',ho',-⟩:=hu;obtain⟨ad',cd',rfl,-⟩:=hd';obtain⟨ao',co',rfl,-⟩:=ho';have A1:=bAl w (.cells #[.int .i64 c.actor,.int .i64 c.seq,.int .i64 c.start,.slice ad c.deps.length cd,.slice ao l.length co] 33);have A2:=A1.alloc A1.size (.cells #[.int .i64 c.actor,.int .i64 c.seq,.int .i64 c.start,.slice ad' c.deps.length cd',.slice ao' l'.length co'] 33);have hbx:((w.alloc (.cells #[.int .i64 c.actor,.int .i64 c.seq,.int .i64 c.start,.slice ad c.deps.length cd,.slice ao l.length co] 33)).alloc (.cells #[.int .i64 c.actor,.int .i64 c.seq,.int .i64 c.start,.slice ad' c.deps.length cd',.slice ao' l'.length co'] 33)).heap[w.heap.size+1]?=some (.cells #[.int .i64 c.actor,.int .i64 c.seq,.int .i64 c.start,.slice ad' c.deps.length cd',.slice ao' l'.length co'] 33):=by
  have:=(MapKept.heap_alloc (w.alloc (.cells #[.int .i64 c.actor,.int .i64 c.seq,.int .i64 c.start,.slice ad c.deps.length cd,.slice ao l.length co] 33)) (.cells #[.int .i64 c.actor,.int .i64 c.seq,.int .i64 c.start,.slice ad' c.deps.length cd',.slice ao' l'.length co'] 33)).1;simpa using this
 have E1:=rEncodeF_any _ c _ (hv0.below A2) h;go_enter Tryz.func43,Tryz.ntmps43
 go_wp2_with fail;refine E1.mono ?_;rintro e w1 ⟨u1,rfl,R1,b1⟩;have B1:Below w.heap.size w w1:=A2.trans (b1.mono A2.size);have X1:=heap_below hbx b1 lRf;obtain⟨y0,y1,y2,y3,y4,-⟩:=cLs X1;have E2:=rEncodeF_any _ c _ (hu0.below B1) h;clear E1 hbx hv0 hu0 A1 A2;go_wp2_with fail;refine E2.mono ?_;rintro e w2 ⟨u2,rfl,R2,b2⟩;have B2:Below w.heap.size w w2:=B1.trans (b2.mono B1.size);obtain⟨g1,c1,rfl,t1⟩:=row_text (own_below R1 b2 lRf) (encC_ne c);obtain⟨g2,c2,rfl,t2⟩:=row_text R2 (encC_ne c);have v1:=run_convert_bytes_back (P:=Tryz.prog) w2 122 9 5 ⟨g1,0,none⟩ c1 (encC c) Tryz.underlying122 Tryz.underlying5 Tryz.underlying9 (fun t ht=>t1 t _ (by simp[Lib.byteCells,ht]));have v2:=run_convert_bytes_back (P:=Tryz.prog) w2 122 9 5 ⟨g2,0,none⟩ c2 (encC c) Tryz.underlying122 Tryz.underlying5 Tryz.underlying9 (fun t ht=>t2 t _ (by simp[Lib.byteCells,ht]));clear t1 t2 R1 R2 b1 b2 E2 y0 y1 y2 y3 y4 X1;generalize encC c=P at *;go_wp2;go_ret;exact⟨by simp,B2⟩
theorem same_any (v u:Value) (c:Chg) (w:World) (hv:IsChg w v c) (hu:IsChg w u c) (h:chk c=0):
 Calls Tryz.prog 43 #[v,u] w fun e w'=>e=.returned (.bool true)∧Below w.heap.size w w':=sameF_any v u c w hv hu (hv.fit h)
theorem rSame_any (v u:Value) (c d:Chg) (w:World) (hv:IsChg w v c) (hu:IsChg w u d) (h:chk c=0) (h':chk d=0):
 Calls Tryz.prog 65 #[v,u] w fun e w'=>e=.returned (.bool (decide (encC c=encC d)))∧Below w.heap.size w w':=by
 obtain⟨sb,hsb⟩:=gNz (decide (encC c=encC d):Bool);rw[hsb];have HQ:Hid (encC c=encC d↔sb=true):=by show _↔_;rw[←hsb];simp
 clear hsb;have hv0:=hv;have hu0:=hu;obtain⟨ud,uo,l,rfl,-,-,-,hd,ho,-⟩:=hv;obtain⟨ad,cd,rfl,-⟩:=hd;obtain⟨ao,co,rfl,-⟩:=ho;obtain⟨ud',uo',l',rfl,-,-,-,hd',ho',-⟩:=hu;obtain⟨ad',cd',rfl,-⟩:=hd';obtain⟨ao',co',rfl,-⟩:=ho';have A1:=bAl w (.cells #[.int .i64 c.actor,.int .i64 c.seq,.int .i64 c.start,.slice ad c.deps.length cd,.slice ao l.length co] 33);have A2:=A1.alloc A1.size (.cells #[.int .i64 d.actor,.int .i64 d.seq,.int .i64 d.start,.slice ad' d.deps.length cd',.slice ao' l'.length co'] 33);have hbx:((w.alloc (.cells #[.int .i64 c.actor,.int .i64 c.seq,.int .i64 c.start,.slice ad c.deps.length cd,.slice ao l.length co] 33)).alloc (.cells #[.int .i64 d.actor,.int .i64 d.seq,.int .i64 d.start,.slice ad' d.deps.length cd',.slice ao' l'.length co'] 33)).heap[w.heap.size+1]?=some (.cells #[.int .i64 d.actor,.int .i64 d.seq,.int .i64 d.start,.slice ad' d.deps.length cd',.slice ao' l'.length co'] 33):=by
  have:=(MapKept.heap_alloc (w.alloc (.cells #[.int .i64 c.actor,.int .i64 c.seq,.int .i64 c.start,.slice ad c.deps.length cd,.slice ao l.length co] 33)) (.cells #[.int .i64 d.actor,.int .i64 d.seq,.int .i64 d.start,.slice ad' d.deps.length cd',.slice ao' l'.length co'] 33)).1;simpa using this
 have E1:=rEncode_any _ c _ (hv0.below A2) h;go_enter Tryz.func65,Tryz.ntmps65
 go_wp2_with fail;refine E1.mono ?_;rintro e w1 ⟨u1,rfl,R1,b1⟩;have B1:Below w.heap.size w w1:=A2.trans (b1.mono A2.size);have X1:=heap_below hbx b1 lRf;obtain⟨y0,y1,y2,y3,y4,-⟩:=cLs X1;have E2:=rEncode_any _ d _ (hu0.below B1) h';clear E1 hbx hv0 hu0 A1 A2;go_wp2_with fail;refine E2.mono ?_;rintro e w2 ⟨u2,rfl,R2,b2⟩;have B2:Below w.heap.size w w2:=B1.trans (b2.mono B1.size);obtain⟨g1,c1,rfl,t1⟩:=row_text (own_below R1 b2 lRf) (encC_ne c);obtain⟨g2,c2,rfl,t2⟩:=row_text R2 (encC_ne d);have v1:=run_convert_bytes_back (P:=Tryz.prog) w2 122 9 5 ⟨g1,0,none⟩ c1 (encC c) Tryz.underlying122 Tryz.underlying5 Tryz.underlying9 (fun t ht=>t1 t _ (by simp[Lib.byteCells,ht]));have v2:=run_convert_bytes_back (P:=Tryz.prog) w2 122 9 5 ⟨g2,0,none⟩ c2 (encC d) Tryz.underlying122 Tryz.underlying5 Tryz.underlying9 (fun t ht=>t2 t _ (by simp[Lib.byteCells,ht]));clear t1 t2 R1 R2 b1 b2 E2 y0 y1 y2 y3 y4 X1;generalize encC c=P at *;generalize encC d=R at *;by_cases he:P=R
 ·have HT:Hid (sb=true):=HQ.out.1 he;subst he;go_wp2;go_ret;exact⟨by rw[HT.out];simp,B2⟩
 ·have HT:Hid (sb=false):=by
   show _=_;cases hs:sb with
   | false=>rfl
   | true=>exact absurd (HQ.out.2 hs) he
  have he1:(P==R)=false:=by rw[beq_eq_false_iff_ne];exact he
  go_wp2;go_ret;exact⟨by rw[HT.out];simp,B2⟩
end Go.Proofs.YtamhlgflbacjgaaGreat
