/-
  What is proved: as each theorem says.
  Conditions: as each theorem says.
-/
import Derived.Test.YtamhlgflbacjgaaGreatG00
import Derived.Test.YtamhlgflbacjgaaGreatG22
import Derived.Test.YtamhlgflbacjgaaGreatG20
import Derived.Test.YtamhlgflbacjgaaGreatG21
import Derived.Test.YtamhlgflbacjgaaGreatG12
import Derived.Deep.CutRange
import Derived.Deep.LoopGhost
import Derived.Deep.RegionHeld3
import Derived.Deep.RegionLaw
set_option maxRecDepth 100000
set_option maxHeartbeats 16000000
namespace Go.Proofs.YtamhlgflbacjgaaGreat
open Go.RowKit
theorem chk_zero (c:Chg):chk c=0↔refB (c.actor,c.seq)=true∧(1≤c.start∧c.start≤1000000)∧c.deps.length≤12∧refsC c.deps=0∧c.ops.length≤40∧c.start+c.ops.length - 1≤1000000∧∀i (h:i<c.ops.length),chkOp c.ops[i]=0:=by
 have hops:chkOps c.ops=0↔∀i (h:i<c.ops.length),chkOp c.ops[i]=0:=by
  constructor
  ·exact fun h i hi=>chkOps_all h _ (List.getElem_mem hi)
  ·intro h;refine chkOps_none _ fun o ho=>?_;obtain⟨i,hi,rfl⟩:=List.getElem_of_mem ho;exact h i hi
 have hh:chkHead c=0↔refB (c.actor,c.seq)=true∧(1≤c.start∧c.start≤1000000)∧c.deps.length≤12∧refsC c.deps=0∧c.ops.length≤40∧c.start+c.ops.length - 1≤1000000:=by
  unfold chkHead refB;dsimp only;have e3:fromB c.start 1000000=true↔1≤c.start∧c.start≤1000000:=by unfold fromB;rw[decide_eq_true_eq]
  rw[←e3];cases fromB c.actor 99 with
  | false=>simp
  | true=>
   cases fromB c.seq 1000000 with
   | false=>simp
   | true=>
    cases fromB c.start 1000000 with
    | false=>simp
    | true=>
     rw[if_pos (by simp)];by_cases h1:12<c.deps.length
     ·rw[if_pos h1];constructor
      ·intro e;cases e
      ·rintro⟨_,_,h,_⟩;omega
     ·rw[if_neg h1];by_cases h2:refsC c.deps=0
      ·rw[if_pos h2];by_cases h3:40<c.ops.length
       ·rw[if_pos h3];constructor
        ·intro e;cases e
        ·rintro⟨_,_,_,_,h,_⟩;omega
       ·rw[if_neg h3];by_cases h4:1000000<c.start+c.ops.length - 1
        ·rw[if_pos h4];constructor
         ·intro e;cases e
         ·rintro⟨_,_,_,_,_,h⟩;omega
        ·rw[if_neg h4];exact⟨fun _=>⟨by simp,rfl,by omega,h2,by omega,by omega⟩,fun _=>rfl⟩
      ·rw[if_neg h2];constructor
       ·intro e;exact absurd e h2
       ·rintro⟨_,_,_,h,_⟩;exact absurd h h2
 unfold chk;by_cases h0:chkHead c=0
 ·rw[if_pos h0,hops];obtain⟨a1,a2,a3,a4,a5,a6⟩:=hh.1 h0;exact⟨fun h=>⟨a1,a2,a3,a4,a5,a6,h⟩,fun⟨_,_,_,_,_,_,h⟩=>h⟩
 ·rw[if_neg h0];exact⟨fun e=>absurd e h0,fun⟨a1,a2,a3,a4,a5,a6,_⟩=>absurd (hh.2 ⟨a1,a2,a3,a4,a5,a6⟩) h0⟩
theorem rChange_any (v:Value) (c:Chg) (w:World) (hv:IsChg w v c):
 Calls Tryz.prog 64 #[v] w fun e w'=>(∃x,e=.returned (.int .i64 x)∧(x=0↔chk c=0))∧Below w.heap.size w w':=by
 obtain⟨ud,uo,l,rfl,i1,i2,i3,hd,ho,hl⟩:=hv;have HLN:Hid (l.length=c.ops.length):=by show _=_;rw[←hl,List.length_map]
 have HL0:Hid (l.map (·.1)=c.ops):=hl;have HZ:Hid (chk c=0↔_):=chk_zero c;have BA:Below w.heap.size w (w.alloc (.cells #[.int .i64 c.actor,.int .i64 c.seq,.int .i64 c.start,ud,uo] 33)):=bAl w _;have hbx:(w.alloc (.cells #[.int .i64 c.actor,.int .i64 c.seq,.int .i64 c.start,ud,uo] 33)).heap[w.heap.size]?=some (.cells #[.int .i64 c.actor,.int .i64 c.seq,.int .i64 c.start,ud,uo] 33):=(MapKept.heap_alloc w _).1;have HD:Hid (IsPairs w ud c.deps):=hd;obtain⟨ad,cd,rfl,-,hd2,-⟩:=id hd;obtain⟨ao,co,rfl,ho1,ho2,ho3',ho4'⟩:=id ho;have HO3:Hid (∀q∈l,IsPairs w q.2 q.1.preds∧OpNums q.1):=ho3';have HO4:Hid (l≠[]→∃b off,ao=some ⟨b,off,none⟩∧b<w.heap.size∧∀i (h:i<l.length) j,j<13→w.cell? ⟨b,off+i*13+j,none⟩=(opCells l[i].1 l[i].2)[j]?):=ho4';clear ho3' ho4' ho hd hl;go_enter Tryz.func64,Tryz.ntmps64
 go_wp2_with fail;refine(rRef_any c.actor c.seq _).mono ?_;rintro e w1 ⟨rfl,b1⟩;have B1:Below w.heap.size w w1:=BA.trans (b1.mono BA.size);have X1:=heap_below hbx b1 lRf;obtain⟨-,-,z2,z3,-⟩:=cLs X1;clear hbx BA b1;cases hA:refB (c.actor,c.seq) with
 | false=>
  have HN:Hid (¬chk c=0):=by
   intro e;have:=(HZ.out.1 e).1;rw[hA] at this;cases this
  clear hA;go_wp2;go_ret;exact⟨⟨1,rfl,by simpa using HN.out⟩,B1⟩
 | true=>
 by_cases s1:c.start<1
 ·have HN:Hid (¬chk c=0):=by intro e;have:=(HZ.out.1 e).2.1;omega
  clear hA;go_wp2;go_ret;exact⟨⟨1,rfl,by simpa using HN.out⟩,B1⟩
 by_cases s2:1000000<c.start
 ·have HN:Hid (¬chk c=0):=by intro e;have:=(HZ.out.1 e).2.1;omega
  clear hA;go_wp2;go_ret;exact⟨⟨1,rfl,by simpa using HN.out⟩,B1⟩
 by_cases hdl:12<c.deps.length
 ·have HN:Hid (¬chk c=0):=by intro e;have:=(HZ.out.1 e).2.2.1;omega
  have g1:(12:Int)<c.deps.length:=by omega
  clear hA;go_wp2;go_ret;exact⟨⟨4,rfl,by simpa using HN.out⟩,B1⟩
 have g1:¬(12:Int)<c.deps.length:=by omega
 have HAH:Hid (refB (c.actor,c.seq)=true):=hA;clear hA;have K:=rClock_any _ _ w1 (HD.out.below B1);go_wp2_with fail;refine K.mono ?_;rintro e w2 ⟨⟨x,rfl,hx⟩,b2⟩;have B2:Below w.heap.size w w2:=B1.trans (b2.mono B1.size);have X2:=heap_below X1 b2 lRf;clear K b2 z2 z3 X1 B1 g1;obtain⟨-,-,z2,-,z4,-⟩:=cLs X2;by_cases hx0:x=0
 ·subst hx0;have HRF:Hid (refsC c.deps=0):=hx.1 rfl;clear hx;by_cases hol:40<l.length
  ·have HN:Hid (¬chk c=0):=by intro e;have:=(HZ.out.1 e).2.2.2.2.1;have:=HLN.out;omega
   have g2:(40:Int)<l.length:=by omega
   go_wp2;go_ret;exact⟨⟨4,rfl,by simpa using HN.out⟩,B2⟩
  have g2:¬(40:Int)<l.length:=by omega
  have wl:IntKind.i64.wrap (c.start+l.length)=c.start+l.length:=IntWalk.i64_in _ (by omega);have wl2:IntKind.i64.wrap (c.start+l.length - 1)=c.start+l.length - 1:=IntWalk.i64_in _ (by omega);by_cases hsl:1000000<c.start+l.length - 1
  ·have HN:Hid (¬chk c=0):=by intro e;have:=(HZ.out.1 e).2.2.2.2.2.1;have:=HLN.out;omega
   go_wp2;go_ret;exact⟨⟨1,rfl,by simpa using HN.out⟩,B2⟩
  have HZ2:Hid (chk c=0↔∀i (h:i<c.ops.length),chkOp c.ops[i]=0):=by
   show _↔_;rw[HZ.out];have e1:=HLN.out;constructor
   ·rintro⟨_,_,_,_,_,_,h⟩;exact h
   ·exact fun h=>⟨HAH.out,by omega,by omega,HRF.out,by omega,by omega,h⟩
  clear HZ HRF HAH;go_wp2_with fail;go_loopw [5] (fun i wr=>∃k:Nat,k≤l.length∧i=.int .i64 k∧(∀j (hj:j<k) (hj2:j<l.length),chkOp l[j].1=0)∧Below w.heap.size w wr∧wr.heap[w.heap.size]?=some (.cells #[.int .i64 c.actor,.int .i64 c.seq,.int .i64 c.start,.slice ad c.deps.length cd,.slice ao l.length co] 33)) (fun i _=>l.length - (RowKit.intOf i).toNat)
  case atStart=>exact⟨0,Nat.zero_le _,rfl,fun j hj=>by omega,B2,X2⟩
  case round=>
   clear B2 X2 z2 z4 wl wl2 g2;obtain⟨k,hk,rfl,hok,hbel,hX⟩:=hrel;have hz:=hbel.size;obtain⟨-,-,-,-,z4,-⟩:=cLs hX;by_cases hlt:k<l.length
   ·obtain⟨b,off,rfl,h4,h5⟩:=HO4.out (fun e=>by rw[e] at hlt;simp at hlt);have CL:∀j,j<13→wr.cell? ⟨b,off+k*13+j,none⟩=(opCells l[k].1 l[k].2)[j]?:=fun j hj=>by rw[hbel.cell (p:=⟨b,off+k*13+j,none⟩) h4];exact h5 k hlt j hj
    have hp:=(HO3.out l[k] (List.getElem_mem hlt)).1.below hbel;have hk2:k<c.ops.length:=by have:=HLN.out;omega
    have HLk:Hid (c.ops[k]=l[k].1):=by
     show _=_;simp only[←HL0.out,List.getElem_map]
    have HN:Hid (¬chkOp l[k].1=0→¬chk c=0):=by
     intro hne e;have:=HZ2.out.1 e k hk2;rw[HLk.out] at this;exact hne this
    have HA:Hid (chkOp l[k].1=0→∀j (hj:j<k+1) (hj2:j<l.length),chkOp l[j].1=0):=by
     intro h j hj hj2;by_cases e:j=k
     ·subst e;exact h
     ·exact hok j (by omega) hj2
    obtain⟨⟨o,vp⟩,hq⟩:∃q,l[k]=q:=⟨_,rfl⟩
    rw[hq] at CL hp HN HA;dsimp only at CL hp HN HA;have g1:(k:Int)<l.length:=by omega
    have x0:=CL 0 (by decide);have x1:=CL 1 (by decide);have x2:=CL 2 (by decide);have x3:=CL 3 (by decide);have x4:=CL 4 (by decide);have x5:=CL 5 (by decide);have x6:=CL 6 (by decide);have x7:=CL 7 (by decide);have x8:=CL 8 (by decide);have x9:=CL 9 (by decide);have x10:=CL 10 (by decide);have x11:=CL 11 (by decide);have x12:=CL 12 (by decide);unfold opCells at x0 x1 x2 x3 x4 x5 x6 x7 x8 x9 x10 x11 x12;simp only[Nat.add_zero,List.getElem?_cons_zero,List.getElem?_cons_succ] at x0 x1 x2 x3 x4 x5 x6 x7 x8 x9 x10 x11 x12;have K:=fun W h=>rOp_any o vp W h;unfold opVal opCells at K;have HX:Hid (wr.heap[w.heap.size]?=some (.cells #[.int .i64 c.actor,.int .i64 c.seq,.int .i64 c.start,.slice ad c.deps.length cd,.slice (some ⟨b,off,none⟩) l.length co] 33)):=hX;obtain⟨ap,cp,rfl,-⟩:=id hp;clear CL h5 hok hq HLk HO4 HO3 hX;go_wp2_with fail;refine(K _ hp).mono ?_;rintro e w2 ⟨⟨x,rfl,hx⟩,b2⟩;have B2:Below w.heap.size w w2:=hbel.trans (b2.mono hz);have HX2:Hid _:=heap_below HX.out b2 lRf;clear b2 hp K x0 x1 x2 x3 x4 x5 x6 x7 x8 x9 x10 x11 x12 z4;by_cases hne:x=0
    ·subst hne;have HA2:Hid _:=HA.out (hx.1 rfl);clear HA HN hx;go_wp2;go_roundw
     case rel=>exact⟨k+1,hlt,by go_num,HA2.out,B2,HX2.out⟩
     case measure=>simp[RowKit.intOf];omega
    ·have HD2:Hid (x=0↔chk c=0):=⟨fun e=>absurd e hne,fun e=>absurd e (HN.out (fun e2=>hne (hx.2 e2)))⟩
     have q0:(x==0)=false:=by rw[beq_eq_false_iff_ne];exact hne
     have q1:(x !=0)=true:=by rw[bne_iff_ne];exact hne
     clear HA HN hx;go_wp2;go_ret;exact⟨⟨x,rfl,HD2.out⟩,B2⟩
   ·have HN:Hid (chk c=0):=by
     show _=_;rw[HZ2.out];intro i hi;have e1:=HLN.out;have:=hok i (by omega) (by omega);simp only[←HL0.out,List.getElem_map];exact this
    have g1:¬(k:Int)<l.length:=by omega
    clear hok;go_wp2;go_ret;exact⟨⟨0,rfl,by simpa using HN.out⟩,hbel⟩
 ·have HD2:Hid (x=0↔chk c=0):=⟨fun e=>absurd e hx0,fun e=>absurd (hx.2 (HZ.out.1 e).2.2.2.1) hx0⟩
  have q0:(x==0)=false:=by rw[beq_eq_false_iff_ne];exact hx0
  have q1:(x !=0)=true:=by rw[bne_iff_ne];exact hx0
  clear hx;go_wp2;go_ret;exact⟨⟨x,rfl,HD2.out⟩,B2⟩
theorem encC_ne (c:Chg):encC c≠[]:=by
 intro h0;unfold encC at h0;have e5:encN [c.actor,c.seq,c.start,(c.deps.length:Int)]=put c.actor.toNat++encN [c.seq,c.start,(c.deps.length:Int)]:=by simp[encN]
 rw[e5] at h0;simp only[List.append_assoc] at h0;exact put_ne _ (List.append_eq_nil_iff.1 h0).1
theorem rSame_any (v u:Value) (c d:Chg) (w:World) (hv:IsChg w v c) (hu:IsChg w u d) (h:chk c=0) (h':chk d=0):
 Calls Tryz.prog 65 #[v,u] w fun e w'=>e=.returned (.bool (decide (encC c=encC d)))∧Below w.heap.size w w':=by
 obtain⟨sb,hsb⟩:=gNz (decide (encC c=encC d):Bool);rw[hsb];have HQ:Hid (encC c=encC d↔sb=true):=by show _↔_;rw[←hsb];simp
 clear hsb;have hv0:=hv;have hu0:=hu;obtain⟨ud,uo,l,rfl,-,-,-,hd,ho,-⟩:=hv;obtain⟨ad,cd,rfl,-⟩:=hd;obtain⟨ao,co,rfl,-⟩:=ho;obtain⟨ud',uo',l',rfl,-,-,-,hd',ho',-⟩:=hu;obtain⟨ad',cd',rfl,-⟩:=hd';obtain⟨ao',co',rfl,-⟩:=ho';have A1:=bAl w (.cells #[.int .i64 c.actor,.int .i64 c.seq,.int .i64 c.start,.slice ad c.deps.length cd,.slice ao l.length co] 33);have A2:=A1.alloc A1.size (.cells #[.int .i64 d.actor,.int .i64 d.seq,.int .i64 d.start,.slice ad' d.deps.length cd',.slice ao' l'.length co'] 33);have hbx:((w.alloc (.cells #[.int .i64 c.actor,.int .i64 c.seq,.int .i64 c.start,.slice ad c.deps.length cd,.slice ao l.length co] 33)).alloc (.cells #[.int .i64 d.actor,.int .i64 d.seq,.int .i64 d.start,.slice ad' d.deps.length cd',.slice ao' l'.length co'] 33)).heap[w.heap.size+1]?=some (.cells #[.int .i64 d.actor,.int .i64 d.seq,.int .i64 d.start,.slice ad' d.deps.length cd',.slice ao' l'.length co'] 33):=by
  have:=(MapKept.heap_alloc (w.alloc (.cells #[.int .i64 c.actor,.int .i64 c.seq,.int .i64 c.start,.slice ad c.deps.length cd,.slice ao l.length co] 33)) (.cells #[.int .i64 d.actor,.int .i64 d.seq,.int .i64 d.start,.slice ad' d.deps.length cd',.slice ao' l'.length co'] 33)).1;simpa using this
 have E1:=rEncode_any _ c _ (hv0.below A2) h;go_enter Tryz.func65,Tryz.ntmps65
 go_wp2_with fail;refine E1.mono ?_;rintro e w1 ⟨u1,rfl,R1,b1⟩;have B1:Below w.heap.size w w1:=A2.trans (b1.mono A2.size);have X1:=heap_below hbx b1 lRf;obtain⟨y0,y1,y2,y3,y4,-⟩:=cLs X1;have E2:=rEncode_any _ d _ (hu0.below B1) h';clear E1 hbx hv0 hu0 A1 A2;go_wp2_with fail;refine E2.mono ?_;rintro e w2 ⟨u2,rfl,R2,b2⟩;have B2:Below w.heap.size w w2:=B1.trans (b2.mono B1.size);obtain⟨g1,c1,rfl,t1⟩:=row_text (own_below R1 b2 lRf) (encC_ne c);obtain⟨g2,c2,rfl,t2⟩:=row_text R2 (encC_ne d);have v1:=run_convert_bytes_back (P:=Tryz.prog) w2 122 9 5 ⟨g1,0,none⟩ c1 (encC c) Tryz.underlying122 Tryz.underlying5 Tryz.underlying9 (fun t ht=>t1 t _ (by simp[Lib.byteCells,ht]));have v2:=run_convert_bytes_back (P:=Tryz.prog) w2 122 9 5 ⟨g2,0,none⟩ c2 (encC d) Tryz.underlying122 Tryz.underlying5 Tryz.underlying9 (fun t ht=>t2 t _ (by simp[Lib.byteCells,ht]));clear t1 t2 R1 R2 b1 b2 E2 y0 y1 y2 y3 y4 X1;generalize encC c=P at *;generalize encC d=R at *;by_cases he:P=R
 ·have HT:Hid (sb=true):=HQ.out.1 he;subst he;go_wp2;go_ret;exact⟨by rw[HT.out];simp,B2⟩
 ·have HT:Hid (sb=false):=by
   show _=_;cases hs:sb with
   | false=>rfl
   | true=>exact absurd (HQ.out.2 hs) he
  have he1:(P==R)=false:=by rw[beq_eq_false_iff_ne];exact he
  go_wp2;go_ret;exact⟨by rw[HT.out];simp,B2⟩
end Go.Proofs.YtamhlgflbacjgaaGreat
namespace Go.Proofs.YtamhlgflbacjgaaGreat
open Go.RowKit Go.Maps
def IsChgH (B:Nat) (w:World) (v:Value) (c:Chg):Prop:=
 ∃ud uo l,v=.agg #[.int .i64 c.actor,.int .i64 c.seq,.int .i64 c.start,ud,uo]∧(I64 c.actor∧I64 c.seq∧I64 c.start)∧RowPr 45 B ud c.deps w∧RowO B uo l w∧l.map (·.1)=c.ops∧(∀q∈l,RowPr 49 B q.2 q.1.preds w)∧
  (c.deps.length≤8796093022208∧(∀d∈c.deps,R64 d))∧l.length≤1099511627776∧∀q∈l,OpNums q.1∧q.1.preds.length≤8796093022208∧∀d∈q.1.preds,R64 d
theorem IsChgH.chgW {B:Nat} {w:World} {v:Value} {c:Chg} (h:IsChgH B w v c):IsChgW w v c:=by
 obtain⟨ud,uo,l,h1,h2,h3,h4,h5,h6,h7,h8,h9⟩:=h;exact⟨ud,uo,l,h1,h2,RowPr.pairs h3 h7.1 h7.2,RowO.ops h4 h8 (fun q hq=>⟨RowPr.pairs (h6 q hq) (h9 q hq).2.1 (h9 q hq).2.2,(h9 q hq).1⟩),h5,Wh.of_own h3,Wh.of_own h4,fun q hq=>Wh.of_own (h6 q hq)⟩
theorem IsChgH.rows {B:Nat} {w w':World} {v:Value} {c:Chg} (h:IsChgH B w v c) (k:∀T s v n xs,(T=45∨T=62∨T=49)→w.ownsRow B T s v n xs→w'.ownsRow B T s v n xs):IsChgH B w' v c:=by
 obtain⟨ud,uo,l,h1,h2,h3,h4,h5,h6,h7⟩:=h;exact⟨ud,uo,l,h1,h2,k _ _ _ _ _ (Or.inl rfl) h3,k _ _ _ _ _ (Or.inr (Or.inl rfl)) h4,h5,fun q hq=>k _ _ _ _ _ (Or.inr (Or.inr rfl)) (h6 q hq),h7⟩
theorem IsChgH.mono {B C:Nat} {w:World} {v:Value} {c:Chg} (h:IsChgH B w v c) (hC:C≤B):IsChgH C w v c:=by
 obtain⟨ud,uo,l,h1,h2,h3,h4,h5,h6,h7⟩:=h;exact⟨ud,uo,l,h1,h2,own_mono h3 hC,own_mono h4 hC,h5,fun q hq=>own_mono (h6 q hq) hC,h7⟩
theorem IsChgH.below {B:Nat} {w w':World} {v:Value} {c:Chg} (h:IsChgH B w v c) (hb:Below w.heap.size w w'):IsChgH B w' v c:=h.rows fun _ _ _ _ _ _ r=>own_below r hb lRf
theorem IsChgH.grown {B b:Nat} {w w':World} {v:Value} {c:Chg} (h:IsChgH B w v c) (hg:w.grownBy w' (some b)) (hb:b<B∨∃o,w.heap[b]?=some o∧∀cur T,(T=45∨T=62∨T=49)→o≠.cells cur T (0,0)):IsChgH B w' v c:=h.rows fun T s v n xs hT r=>by
 refine r.kept hg ?_;rcases hb with hb | ⟨o,ho,hno⟩
 ·refine Or.inr fun e=>?_;have:=(r.lt b e).1;omega
 ·rcases r.2 with⟨e,_⟩ | ⟨g,cap,cur,e,_,hgb,_⟩
  ·left;rw[e];rfl
  ·refine Or.inr fun e'=>?_;have:g=b:=by rw[e] at e';simpa [Value.ownBlock] using e'
   subst this;rw[hgb] at ho;exact hno cur T hT (Option.some.inj ho).symm
structure Cpx (w:World) (c:Chg) (l li:List OV) (xa:Option Addr) (xc:Nat) (ya:Option Addr) (yc:Nat) (kk:Nat) (wr:World):Prop where
 x:wr.heap[w.heap.size]?=some (.cells #[.int .i64 c.actor,.int .i64 c.seq,.int .i64 c.start,.slice xa c.deps.length xc,.slice ya l.length yc] 33)
 y:wr.heap[w.heap.size+1]?=some (.cells #[.int .i64 0,.int .i64 0,.int .i64 0,.slice none 0 0,.slice none 0 0] 33)
 row:RowO (w.heap.size+2) (.slice ya l.length yc) li wr
 dep:RowPr 45 (w.heap.size+2) (.slice xa c.deps.length xc) c.deps wr
 ops:li.map (·.1)=l.map (·.1)
 pr:∀q∈li,(IsPairs w q.2 q.1.preds∧Wh q.2)∨RowPr 49 (w.heap.size+2) q.2 q.1.preds wr
 pk:∀j (hj:j<li.length),j<kk→RowPr 49 (w.heap.size+2) li[j].2 li[j].1.preds wr
 bel:Below w.heap.size w wr
 z:w.heap.size+2≤wr.heap.size
theorem Cpx.len {w:World} {c:Chg} {l li:List OV} {xa:Option Addr} {xc:Nat} {ya:Option Addr} {yc:Nat} {kk:Nat} {wr:World} (h:Cpx w c l li xa xc ya yc kk wr):li.length=l.length:=by
 have:=congrArg List.length h.ops;simpa using this
theorem Cpx.grow {w:World} {c:Chg} {l li:List OV} {xa:Option Addr} {xc:Nat} {ya:Option Addr} {yc:Nat} {kk:Nat} {wr V:World} (h:Cpx w c l li xa xc ya yc kk wr) (hb:Below wr.heap.size wr V):Cpx w c l li xa xc ya yc kk V:=
 ⟨heap_below h.x hb lRf,heap_below h.y hb lRf,own_below h.row hb lRf,own_below h.dep hb lRf,h.ops,fun q hq=>(h.pr q hq).imp id (fun r=>own_below r hb lRf),fun j hj hk=>own_below (h.pk j hj hk) hb lRf,h.bel.trans (hb.mono (by have:=h.z;omega)),by have:=hb.size;have:=h.z;omega⟩
theorem Cpx.put {w:World} {c:Chg} {l li:List OV} {xa:Option Addr} {xc:Nat} {g yc:Nat} {V:World} (k:Nat) (h:Cpx w c l li xa xc (some ⟨g,0,none⟩) yc k V) (hk:k<li.length) (nv:Value) (hn:RowPr 49 (w.heap.size+2) nv li[k].1.preds V) {cur:Array Value} (hg:w.heap.size+2≤g) (hh:V.heap[g]?=some (.cells cur 62)):
 Cpx w c l (li.set k (li[k].1,nv)) xa xc (some ⟨g,0,none⟩) yc (k+1) (V.setCell ⟨g,k*13+12,none⟩ nv):=by
 refine⟨heap_set_other h.x (by omega),heap_set_other h.y (by omega),?_,own_set_other h.dep hh (by decide),?_,fun q hq=>?_,fun j hj hjk=>?_,h.bel.setCell (p:=⟨g,k*13+12,none⟩) (show w.heap.size≤g by omega) nv,?_⟩
 ·have h5:=rowO_set (l:=li) (cap:=yc) (g:=g) (B:=w.heap.size+2) (w:=V) (by rw[h.len];exact h.row) k hk nv;rw[h.len] at h5;exact h5
 ·rw[←h.ops];refine List.ext_getElem (by simp) fun i h1 h2=>?_;simp only[List.getElem_map,List.getElem_set];split
  ·rename_i e;subst e;rfl
  ·rfl
 ·rcases List.mem_or_eq_of_mem_set hq with h5 | rfl
  ·exact(h.pr q h5).imp id (fun r=>own_set_other r hh (by decide))
  ·exact Or.inr (own_set_other hn hh (by decide))
 ·rw[List.length_set] at hj;by_cases e:j=k
  ·subst e;simp only[List.getElem_set_self];exact own_set_other hn hh (by decide)
  ·rw[List.getElem_set_ne (fun e2=>e e2.symm)];exact own_set_other (h.pk j hj (by omega)) hh (by decide)
 ·have:=((Below.refl w.heap.size V).setCell (p:=⟨g,k*13+12,none⟩) (show w.heap.size≤g by omega) nv).size;have:=h.z;omega
theorem Cpx.prs {w:World} {c:Chg} {l li:List OV} {xa:Option Addr} {xc:Nat} {ya:Option Addr} {yc:Nat} {kk:Nat} {wr:World} (h:Cpx w c l li xa xc ya yc kk wr) {vo:Value} (ho:IsOps w vo l) (hl:l.map (·.1)=c.ops) (hp:∀o∈c.ops,o.preds.length≤1000000):
 ∀q∈li,IsPairs wr q.2 q.1.preds∧Wh q.2∧q.1.preds.length≤1000000:=by
 obtain⟨_,_,_,_,ho1,ho2,_⟩:=ho;intro q hq;obtain⟨p,hp1,hp2⟩:∃p∈l,p.1=q.1:=by
  have:q.1∈l.map (·.1):=by rw[←h.ops];exact List.mem_map.2 ⟨q,hq,rfl⟩
  exact List.mem_map.1 this
 have h6:=hp q.1 (by rw[←hl,←hp2];exact List.mem_map.2 ⟨p,hp1,rfl⟩);rcases h.pr q hq with⟨h1,h2⟩ | h1
 ·exact⟨h1.below h.bel,h2,h6⟩
 ·obtain⟨⟨_,_,_,_,_,h5,_⟩,_⟩:=ho2 p hp1;exact⟨RowPr.pairs h1 (by omega) (by rw[←hp2];exact h5),Wh.of_own h1,h6⟩
theorem Cpx.done {w:World} {c:Chg} {l li:List OV} {xa:Option Addr} {xc:Nat} {ya:Option Addr} {yc:Nat} {kk:Nat} {wr:World} (h:Cpx w c l li xa xc ya yc kk wr) {vd vo:Value} (hd:IsPairs w vd c.deps) (ho:IsOps w vo l) (hl:l.map (·.1)=c.ops) (hi:I64 c.actor∧I64 c.seq∧I64 c.start) (hp:∀o∈c.ops,o.preds.length≤1000000)
 (Z:World) (hz:∀e s v n xs,wr.ownsRow (w.heap.size+2) e s v n xs→Z.ownsRow (w.heap.size+2) e s v n xs) (hkk:l.length≤kk):
 IsChgH (w.heap.size+2) Z (.agg #[.int .i64 c.actor,.int .i64 c.seq,.int .i64 c.start,.slice xa c.deps.length xc,.slice ya l.length yc]) c:=by
 obtain⟨_,_,_,_,hd1,hd2,_⟩:=hd;obtain⟨_,_,_,_,ho1,ho2,_⟩:=ho;have hR:=hz _ _ _ _ _ h.row;have hD:=hz _ _ _ _ _ h.dep;have hm:∀q∈li,∃p∈l,p.1=q.1:=fun q hq=>by
  have:q.1∈l.map (·.1):=by rw[←h.ops];exact List.mem_map.2 ⟨q,hq,rfl⟩
  exact List.mem_map.1 this
 refine⟨_,_,li,rfl,hi,hD,?_,by rw[h.ops];exact hl,fun q hq=>?_,⟨hd1,hd2⟩,by rw[h.len];omega,fun q hq=>?_⟩
 ·exact hR
 ·obtain⟨j,hj,rfl⟩:=List.getElem_of_mem hq;exact hz _ _ _ _ _ (h.pk j hj (by have:=h.len;omega))
 ·obtain⟨p,hp1,hp2⟩:=hm q hq;obtain⟨⟨_,_,_,_,_,h5,_⟩,h7⟩:=ho2 p hp1;have h6:=hp q.1 (by rw[←hl,←hp2];exact List.mem_map.2 ⟨p,hp1,rfl⟩);rw[←hp2] at h6 ⊢;exact⟨h7,by omega,h5⟩
theorem copyOf_hi (v:Value) (c:Chg) (w:World) (hv:IsChgW w v c) (h1:c.deps.length≤1000000) (h2:c.ops.length≤1000000) (h3:∀o∈c.ops,o.preds.length≤1000000):
 Calls Tryz.prog 34 #[v] w fun e w'=>∃u,e=.returned u∧IsChgH w.heap.size w' u c∧Below w.heap.size w w':=by
 obtain⟨ud,uo,l,rfl,hi,hd,ho,hl,wd,wo,wq⟩:=hv;obtain⟨da,dc,rfl,_⟩:=id hd;obtain⟨oa,oc,rfl,_⟩:=id ho;have hll:l.length≤1000000:=by have:=congrArg List.length hl;rw[List.length_map] at this;omega
 have b0:=(bAl w (.cells #[.int .i64 c.actor,.int .i64 c.seq,.int .i64 c.start,.slice da c.deps.length dc,.slice oa l.length oc] 33)).alloc (by simp) (.cells #[.int .i64 0,.int .i64 0,.int .i64 0,.slice none 0 0,.slice none 0 0] 33);have x0:=heap_alloc_old (heap_alloc_new w (.cells #[.int .i64 c.actor,.int .i64 c.seq,.int .i64 c.start,.slice da c.deps.length dc,.slice oa l.length oc] 33)) (.cells #[.int .i64 0,.int .i64 0,.int .i64 0,.slice none 0 0,.slice none 0 0] 33);have y0:=heap_alloc_new (w.alloc (.cells #[.int .i64 c.actor,.int .i64 c.seq,.int .i64 c.start,.slice da c.deps.length dc,.slice oa l.length oc] 33)) (.cells #[.int .i64 0,.int .i64 0,.int .i64 0,.slice none 0 0,.slice none 0 0] 33);rw[show(w.alloc (.cells #[.int .i64 c.actor,.int .i64 c.seq,.int .i64 c.start,.slice da c.deps.length dc,.slice oa l.length oc] 33)).heap.size=w.heap.size+1 from by simp] at y0;have sz0:((w.alloc (.cells #[.int .i64 c.actor,.int .i64 c.seq,.int .i64 c.start,.slice da c.deps.length dc,.slice oa l.length oc] 33)).alloc (.cells #[.int .i64 0,.int .i64 0,.int .i64 0,.slice none 0 0,.slice none 0 0] 33)).heap.size=w.heap.size+2:=by simp
 have HA:=hY4 b0 x0 y0 sz0;have HH:Hid (IsPairs w (.slice da c.deps.length dc) c.deps∧IsOps w (.slice oa l.length oc) l∧Wh (.slice da c.deps.length dc)∧Wh (.slice oa l.length oc)∧(∀q∈l,Wh q.2)∧c.deps.length≤1000000∧l.length≤1000000∧(∀o∈c.ops,o.preds.length≤1000000)∧l.map (·.1)=c.ops∧(I64 c.actor∧I64 c.seq∧I64 c.start)):=⟨hd,ho,wd,wo,wq,h1,hll,h3,hl,hi⟩
 clear hd ho wd wo wq h1 h2 h3 hl hi hll b0 x0 y0 sz0;go_enter Tryz.func34,Tryz.ntmps34
 go_upto_region 1 with fail
 obtain⟨b0,x0,y0,sz0⟩:=HA.out;clear HA;generalize (w.alloc (.cells #[.int .i64 c.actor,.int .i64 c.seq,.int .i64 c.start,.slice da c.deps.length dc,.slice oa l.length oc] 33)).alloc (.cells #[.int .i64 0,.int .i64 0,.int .i64 0,.slice none 0 0,.slice none 0 0] 33)=W at *;obtain⟨-,-,-,c3,-⟩:=cLs x0;obtain⟨vd,W1,r1,o1,b1⟩:=run_copy Tryz.underlying30 infoR 30 W (w.heap.size+2) (by omega) (.slice da c.deps.length dc) c.deps (HH.out.1.below b0) HH.out.2.2.1 HH.out.2.2.2.2.2.1;obtain⟨xa,xc,rfl⟩:=rowPr_len o1;have x1:=(Kp.of (S:=[]) b1).heap x0 (by simp);have y1:=(Kp.of (S:=[]) b1).heap y0 (by simp);obtain⟨-,-,-,s3,-⟩:=cLs x1;have sf:=fRz x1;have x2:(W1.setCell ⟨w.heap.size,3,none⟩ (.slice xa c.deps.length xc)).heap[w.heap.size]?=some (.cells #[.int .i64 c.actor,.int .i64 c.seq,.int .i64 c.start,.slice xa c.deps.length xc,.slice oa l.length oc] 33):=set_at x1 3 _;have y2:=heap_set_other (g:=w.heap.size) (i:=3) (v:=.slice xa c.deps.length xc) y1 (by omega);have o2:=ownsRow_setCell_below o1 (a:=⟨w.heap.size,3,none⟩) (by show w.heap.size<w.heap.size+2;omega) (.slice xa c.deps.length xc);have bW:Below w.heap.size w W1:=b0.trans (b1.mono (by omega));have bW2:=bW.setCell (p:=⟨w.heap.size,3,none⟩) lRf (.slice xa c.deps.length xc);have z2:w.heap.size+2≤(W1.setCell ⟨w.heap.size,3,none⟩ (.slice xa c.deps.length xc)).heap.size:=by
  have h5:=((Below.refl w.heap.size W1).setCell (p:=⟨w.heap.size,3,none⟩) lRf (.slice xa c.deps.length xc)).size;have h6:=b1.size;omega
 have HN:=hY5 x2 y2 o2 bW2 z2;clear x0 y0 x1 y1 x2 y2 o1 o2 b0 b1 bW bW2 z2;go_upto_region 2 with(first | (at_builtin;refine wp_append rfl _ _ 30 rfl _ _ _ _ rfl rfl r1 ?_))
 obtain⟨x2,y2,o2,bW2,z2⟩:=HN.out;clear HN c3 r1 s3 sf sz0;generalize W1.setCell ⟨w.heap.size,3,none⟩ (.slice xa c.deps.length xc)=W2 at *;obtain⟨-,-,-,-,c4,-⟩:=cLs x2;obtain⟨vo,W3,r3,o3,b3⟩:=run_copyO 31 W2 (w.heap.size+2) z2 (.slice oa l.length oc) l (HH.out.2.1.below bW2) HH.out.2.2.2.1 HH.out.2.2.2.2.2.2.1;obtain⟨ya,yc,rfl⟩:=rowO_len o3;have x3:=(Kp.of (S:=[]) b3).heap x2 (by simp);have y3:=(Kp.of (S:=[]) b3).heap y2 (by simp);obtain⟨-,-,-,-,s4,-⟩:=cLs x3;have sf:=fRz x3;have x4:(W3.setCell ⟨w.heap.size,4,none⟩ (.slice ya l.length yc)).heap[w.heap.size]?=some (.cells #[.int .i64 c.actor,.int .i64 c.seq,.int .i64 c.start,.slice xa c.deps.length xc,.slice ya l.length yc] 33):=set_at x3 4 _;have y4:=heap_set_other (g:=w.heap.size) (i:=4) (v:=.slice ya l.length yc) y3 (by omega);have o4:=ownsRow_setCell_below o3 (a:=⟨w.heap.size,4,none⟩) (by show w.heap.size<w.heap.size+2;omega) (.slice ya l.length yc);have p4:=ownsRow_setCell_below (own_below o2 b3 lRf) (a:=⟨w.heap.size,4,none⟩) (by show w.heap.size<w.heap.size+2;omega) (.slice ya l.length yc);have bW3:Below w.heap.size w W3:=bW2.trans (b3.mono (by omega));have bW4:=bW3.setCell (p:=⟨w.heap.size,4,none⟩) lRf (.slice ya l.length yc);have z4:w.heap.size+2≤(W3.setCell ⟨w.heap.size,4,none⟩ (.slice ya l.length yc)).heap.size:=by
  have h5:=((Below.refl w.heap.size W3).setCell (p:=⟨w.heap.size,4,none⟩) lRf (.slice ya l.length yc)).size;have h6:=b3.size;omega
 have HN:=hY6 x4 y4 o4 p4 bW4 z4;clear x2 y2 o2 bW2 z2 x3 y3 o3 b3 x4 y4 o4 p4 bW3 bW4 z4;go_upto_region 3 with(first | (at_builtin;refine wp_append rfl _ _ 31 rfl _ _ _ _ rfl rfl r3 ?_))
 obtain⟨x4,y4,o4,p4,bW4,z4⟩:=HN.out;clear HN c4 r3 s4 sf;generalize W3.setCell ⟨w.heap.size,4,none⟩ (.slice ya l.length yc)=W4 at *;have C0:Cpx w c l l xa xc ya yc 0 W4:=⟨x4,y4,o4,p4,rfl,fun q hq=>Or.inl ⟨(by obtain⟨_,_,_,_,_,hr,_⟩:=HH.out.2.1;exact(hr q hq).1),HH.out.2.2.2.2.1 q hq⟩,fun j _ hj=>absurd hj (Nat.not_lt_zero _),bW4,z4⟩
 obtain⟨-,-,-,-,c5,-⟩:=cLs x4;have HC0:Hid _:=C0;clear C0 x4 y4 o4 p4 bW4 z4;go_wp2_with fail;go_loopg [16] l.length (fun gk i wr=>∃(k:Nat) (li:List OV),k+gk=l.length∧i=.int .i64 (k:Int)∧Cpx w c l li xa xc ya yc k wr)
 case atStart=>exact⟨0,l,by omega,rfl,HC0.out⟩
 case round=>
  obtain⟨k,li,hk,rfl,hC⟩:=hrel;by_cases hlt:k<l.length
  ·have g1:(k:Int)<l.length:=by omega
   have hli:=hC.len;have hkl:k<li.length:=by omega
   have hne:li≠[]:=fun e=>by rw[e] at hkl;simp at hkl
   obtain⟨g,cap,ey,hg,hgs,hcap,hfz,⟨cur,hcur⟩,hcs⟩:=rowO_form hC.row hne;obtain⟨ey1,ey3,ey2⟩:=Value.slice.inj ey;clear ey3;subst ey1 ey2;obtain⟨hpv,hwv,hpl⟩:=hC.prs HH.out.2.1 HH.out.2.2.2.2.2.2.2.2.1 HH.out.2.2.2.2.2.2.2.1 li[k] (List.getElem_mem hkl);obtain⟨⟨o,pv⟩,hq⟩:∃q:OV,li[k]=q:=⟨_,rfl⟩
   have hcs1:=hcs k hkl;rw[hq] at hcs1 hpv hwv hpl;dsimp only at hcs1 hpv hwv hpl;obtain⟨pa,pc,rfl,_⟩:=id hpv;have q0:wr.cell? ⟨g,k*13,none⟩=some (.int .i64 o.kind):=hcs1 0 (by decide);have q1:wr.cell? ⟨g,k*13+1,none⟩=some (.int .i64 o.obj.1):=hcs1 1 (by decide);have q2:wr.cell? ⟨g,k*13+2,none⟩=some (.int .i64 o.obj.2):=hcs1 2 (by decide);have q3:wr.cell? ⟨g,k*13+3,none⟩=some (.string o.key):=hcs1 3 (by decide);have q4:wr.cell? ⟨g,k*13+4,none⟩=some (.int .i64 o.elem.1):=hcs1 4 (by decide);have q5:wr.cell? ⟨g,k*13+5,none⟩=some (.int .i64 o.elem.2):=hcs1 5 (by decide);have q6:wr.cell? ⟨g,k*13+6,none⟩=some (.bool o.ins):=hcs1 6 (by decide);have q7:wr.cell? ⟨g,k*13+7,none⟩=some (.int .i64 o.val.k):=hcs1 7 (by decide);have q8:wr.cell? ⟨g,k*13+8,none⟩=some (.int .i64 o.val.n):=hcs1 8 (by decide);have q9:wr.cell? ⟨g,k*13+9,none⟩=some (.string o.val.t):=hcs1 9 (by decide);have q10:wr.cell? ⟨g,k*13+10,none⟩=some (.int .i64 o.val.o):=hcs1 10 (by decide);have q11:wr.cell? ⟨g,k*13+11,none⟩=some (.int .i64 o.val.a):=hcs1 11 (by decide);have q12:wr.cell? ⟨g,k*13+12,none⟩=some (.slice pa o.preds.length pc):=hcs1 12 (by decide);have hk2:(k:Int)<1000000:=by have:=HH.out.2.2.2.2.2.2.1;omega
   have bA:=bAl wr (.cells (opA o o.ins (.slice pa o.preds.length pc)) 62);have ob:=heap_alloc_new wr (.cells (opA o o.ins (.slice pa o.preds.length pc)) 62);have HF:=hY9 hli hg hgs hcur hq bA ob ((hpv.below bA)) (hC.grow bA);have HW:=hY2 hwv hpl;have HK:=hY2 hk hlt;clear hC hlt hcs hcs1 hne ey hli hg hgs hcap hcur hq c5 hfz bA ob hpv hwv hpl hk;go_upto_region 6 with fail
   obtain⟨hli,hg,hgs,hcur,hq,bA,ob,hpv,hC⟩:=HF.out;clear HF q0 q1 q2 q3 q4 q5 q6 q7 q8 q9 q10 q11 q12;generalize wr.alloc (.cells (opA o o.ins (.slice pa o.preds.length pc)) 62)=W at *;have hcur1:=heap_below hcur bA lRf;obtain⟨-,-,-,-,e4,-⟩:=cLs hC.x;obtain⟨-,-,-,-,-,-,-,-,-,-,-,-,e12,-⟩:=cLs ob;have bD:Below W.heap.size W W.drew:=drew_of (Below.refl _ W);obtain⟨nv,V,r1,o1,b1⟩:=run_copy Tryz.underlying50 infoD 50 W.drew (w.heap.size+2) hC.z (.slice pa o.preds.length pc) o.preds (hpv.below bD) HW.out.1 HW.out.2;obtain⟨na,nc,rfl⟩:=rowPr_len o1;have hCV:=hC.grow (bD.trans b1);have hcur2:=heap_below hcur1 (bD.trans b1) lRf;obtain⟨-,-,-,-,f4,-⟩:=cLs hCV.x;have ff:=fRz hcur2;have fs:∃z,V.cell? ⟨g,k*13+12,none⟩=some z∧z=Value.slice pa o.preds.length pc:=by
    obtain⟨g',cap',ey,_,_,_,_,_,hcs⟩:=rowO_form hCV.row (fun e=>by rw[e] at hkl;simp at hkl);have eg:=(Value.slice.inj ey).1;have eg2:g=g':=by have:=Option.some.inj eg;simpa using this
    subst eg2;have:=hcs k hkl 12 (by decide);rw[hq] at this;exact⟨_,this.trans rfl,rfl⟩
   obtain⟨_,fs,rfl⟩:=fs;have hn:RowPr 49 (w.heap.size+2) (.slice na o.preds.length nc) li[k].1.preds V:=by rw[hq];exact o1
   have HP:Hid _:=Cpx.put k hCV hkl _ hn hg hcur2;clear hCV hn o1 b1 bD hcur2 hcur1 hC hpv ob bA hq hcur hgs hg hli;go_region_law (refine step_append_known rfl (.const (.slice none 0 0)) (.tmp 25) 50 rfl (.slice none 0 0) (.slice pa o.preds.length pc) _ V (by simp[Act.eval]) (by simp[Act.eval]) r1 ?_);all_goals
    have hP:=HP.out;clear r1 f4 ff fs e4 e12;generalize V.setCell ⟨g,k*13+12,none⟩ (.slice na o.preds.length nc)=V2 at *;have HP2:Hid _:=hP;clear hP;go_wp2;go_roundg (gk - 1)
    case measure=>have:=HK.out;omega
    case rel=>exact⟨k+1,_,by have:=HK.out;omega,by first | rfl | go_num | (congr 1;unfold wrap64;have:=HK.out;omega),HP2.out⟩
  ·have hke:k=l.length:=by omega
   have g1:¬(k:Int)<l.length:=by omega
   have HC:Hid _:=hC;have X:=hC.x;have Y:=hC.y;obtain⟨q0,q1,q2,q3,q4,-⟩:=cLs X;obtain⟨z0,z1,z2,z3,z4,-⟩:=cLs Y;have zf:=fRz Y;have HX:=hY2 (set_at (set_at (set_at (set_at (set_at Y 0 (.int .i64 c.actor)) 1 (.int .i64 c.seq)) 2 (.int .i64 c.start)) 3 (.slice xa c.deps.length xc)) 4 (.slice ya l.length yc)) hC.bel;have HKE:Hid (l.length≤k):=by show _≤_;omega
   clear X Y hC hlt hk c5;go_wp2;obtain⟨Xz,bz⟩:=HX.out;have bZ:=(((((HC.out.bel).setCell (p:=⟨w.heap.size+1,0,none⟩) (Nat.le_succ _) (.int .i64 c.actor)).setCell (p:=⟨w.heap.size+1,1,none⟩) (Nat.le_succ _) (.int .i64 c.seq)).setCell (p:=⟨w.heap.size+1,2,none⟩) (Nat.le_succ _) (.int .i64 c.start)).setCell (p:=⟨w.heap.size+1,3,none⟩) (Nat.le_succ _) (.slice xa c.deps.length xc)).setCell (p:=⟨w.heap.size+1,4,none⟩) (Nat.le_succ _) (.slice ya l.length yc);have hw:∀e s v n xs,wr.ownsRow (w.heap.size+2) e s v n xs→(((((wr.setCell ⟨w.heap.size+1,0,none⟩ (.int .i64 c.actor)).setCell ⟨w.heap.size+1,1,none⟩ (.int .i64 c.seq)).setCell ⟨w.heap.size+1,2,none⟩ (.int .i64 c.start)).setCell ⟨w.heap.size+1,3,none⟩ (.slice xa c.deps.length xc)).setCell ⟨w.heap.size+1,4,none⟩ (.slice ya l.length yc)).ownsRow (w.heap.size+2) e s v n xs:=fun e s v n xs h=>
    ownsRow_setCell_below (ownsRow_setCell_below (ownsRow_setCell_below (ownsRow_setCell_below (ownsRow_setCell_below h (Nat.lt_succ_self _) _) (Nat.lt_succ_self _) _) (Nat.lt_succ_self _) _) (Nat.lt_succ_self _) _) (Nat.lt_succ_self _) _
   have D:=HC.out.done HH.out.1 HH.out.2.1 HH.out.2.2.2.2.2.2.2.2.1 HH.out.2.2.2.2.2.2.2.2.2 HH.out.2.2.2.2.2.2.2.1 _ hw HKE.out;clear hw HX q0 q1 q2 q3 q4 z0 z1 z2 z3 z4 zf bz;generalize (((((wr.setCell ⟨w.heap.size+1,0,none⟩ (.int .i64 c.actor)).setCell ⟨w.heap.size+1,1,none⟩ (.int .i64 c.seq)).setCell ⟨w.heap.size+1,2,none⟩ (.int .i64 c.start)).setCell ⟨w.heap.size+1,3,none⟩ (.slice xa c.deps.length xc)).setCell ⟨w.heap.size+1,4,none⟩ (.slice ya l.length yc))=Z at *;obtain⟨q0,q1,q2,q3,q4,-⟩:=cLs Xz;exact bodyPost_ret (v:=.agg #[.int .i64 c.actor,.int .i64 c.seq,.int .i64 c.start,.slice xa c.deps.length xc,.slice ya l.length yc]) (by simp[results,Tryz.results34,go_sem,q0,q1,q2,q3,q4]) rfl ⟨_,rfl,D.mono (Nat.le_add_right _ _),bZ⟩
end Go.Proofs.YtamhlgflbacjgaaGreat
