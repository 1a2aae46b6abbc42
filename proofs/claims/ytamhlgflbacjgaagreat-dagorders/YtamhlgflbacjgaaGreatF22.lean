/-
  What is proved: as each theorem says.
  Conditions: as each theorem says.
-/
import Derived.Test.YtamhlgflbacjgaaGreatF00
import Derived.Test.YtamhlgflbacjgaaGreatF21
set_option maxRecDepth 100000
set_option maxHeartbeats 16000000
namespace Go.Proofs.YtamhlgflbacjgaaGreat
open Go.RowKit
theorem chkOp_zero (o:OpM):chkOp o=0↔(fromB o.kind 4=true∧hasIdsB o=true)∧(o.key.size≤20∧o.preds.length≤12)∧risesB o.preds=true∧(onePlaceB o=true∧(o.ins=true→mayInsertB o=true))∧(okB o.val=true∧mayHaveB o.kind o.val=true)∧(needsB o.kind=true→o.preds.isEmpty=false):=by
 constructor
 ·intro h;unfold chkOp at h;split at h
  ·cases h
  ·rename_i h1;split at h
   ·cases h
   ·rename_i h2;split at h
    ·cases h
    ·rename_i h3;split at h
     ·cases h
     ·rename_i h4;split at h
      ·cases h
      ·rename_i h5;split at h
       ·cases h
       ·rename_i h6;simp only[Bool.or_eq_true,Bool.not_eq_true',Bool.and_eq_true,not_or,not_and,Bool.not_eq_false,Bool.not_eq_true] at h1 h3 h4 h5 h6;exact⟨h1,by omega,h3,⟨h4.1,h4.2⟩,h5,h6⟩
 ·rintro⟨⟨h1,h2⟩,⟨h3,h4⟩,h5,⟨h6,h7⟩,⟨h8,h9⟩,h10⟩;unfold chkOp;rw[if_neg (by simp[h1,h2]),if_neg (by omega),if_neg (by simp[h5]),if_neg (by cases hi:o.ins <;> simp_all),if_neg (by simp[h8,h9]),if_neg (by cases hi:needsB o.kind <;> simp_all)]
theorem all_at {l:List Pr} {f:Pr→Bool}:l.all f=true↔∀i (h:i<l.length),f l[i]=true:=by
 rw[List.all_eq_true];constructor
 ·exact fun h i hi=>h _ (List.getElem_mem hi)
 ·intro h x hx;obtain⟨i,hi,rfl⟩:=List.getElem_of_mem hx;exact h i hi
theorem rOp_any (o:OpM) (vp:Value) (w:World) (hv:IsPairs w vp o.preds):
 Calls Tryz.prog 95 #[opVal o vp] w fun e w'=>(∃x,e=.returned (.int .i64 x)∧(x=0↔chkOp o=0))∧Below w.heap.size w w':=by
 have BA:Below w.heap.size w (w.alloc (.cells (opCells o vp).toArray 62)):=bAl w _;have hbx:=op_box (w:=w) (o:=o) (vp:=vp);obtain⟨a,cap,rfl,h1,h2,hr,h3'⟩:=id hv;have H3:Hid (o.preds≠[]→∃b off,a=some ⟨b,off,none⟩∧b<w.heap.size∧∀i (h:i<o.preds.length),w.cell? ⟨b,off+i*2,none⟩=some (.int .i64 o.preds[i].1)∧w.cell? ⟨b,off+i*2+1,none⟩=some (.int .i64 o.preds[i].2)):=h3';have HZ:Hid (chkOp o=0↔_):=chkOp_zero o;have HI:Hid (hasIdsB o=(o.preds.all (fun q=> !rootB q&&idOkB q.1 q.2)&&(idOkB o.obj.1 o.obj.2&&idOkB o.elem.1 o.elem.2))):=rfl;clear h3' hr hv;unfold opVal opCells;unfold opCells at BA hbx;go_enter Tryz.func95,Tryz.ntmps95
 go_wp2_with fail;refine(rId_any o.obj.1 o.obj.2 _).mono ?_;rintro e w1 ⟨rfl,b1⟩;have B1:Below w.heap.size w w1:=BA.trans (b1.mono BA.size);have X1:=heap_below hbx b1 lRf;clear BA hbx b1;obtain⟨-,-,-,-,y4,y5,-⟩:=cLs X1;go_wp2_with fail;refine(rId_any o.elem.1 o.elem.2 _).mono ?_;rintro e w2 ⟨rfl,b2⟩;have B2:Below w.heap.size w w2:=B1.trans (b2.mono B1.size);have X2:=heap_below X1 b2 lRf;clear y4 y5 X1 B1 b2;obtain⟨y0,-,-,-,-,-,-,-,-,-,-,-,y12,-⟩:=cLs X2;by_cases k1:o.kind<1
 ·have HN:Hid (¬chkOp o=0):=by
   intro e;have:=(HZ.out.1 e).1.1;unfold fromB at this;rw[decide_eq_true_eq] at this;omega
  go_wp2;go_ret;exact⟨⟨1,rfl,by simpa using HN.out⟩,B2⟩
 by_cases k4:4<o.kind
 ·have HN:Hid (¬chkOp o=0):=by
   intro e;have:=(HZ.out.1 e).1.1;unfold fromB at this;rw[decide_eq_true_eq] at this;omega
  go_wp2;go_ret;exact⟨⟨1,rfl,by simpa using HN.out⟩,B2⟩
 cases hx:idOkB o.obj.1 o.obj.2 with
 | false=>
  have HN:Hid (¬chkOp o=0):=by
   intro e;have:=(HZ.out.1 e).1.2;rw[HI.out,hx] at this;simp at this
  clear hx;go_wp2;go_ret;exact⟨⟨1,rfl,by simpa using HN.out⟩,B2⟩
 | true=>
 cases hy:idOkB o.elem.1 o.elem.2 with
 | false=>
  have HN:Hid (¬chkOp o=0):=by
   intro e;have:=(HZ.out.1 e).1.2;rw[HI.out,hy] at this;simp at this
  clear hx hy;go_wp2;go_ret;exact⟨⟨1,rfl,by simpa using HN.out⟩,B2⟩
 | true=>
 have HI2:Hid (hasIdsB o=o.preds.all (fun q=> !rootB q&&idOkB q.1 q.2)):=by show _=_;rw[HI.out,hx,hy];simp
 clear hx hy HI y12;go_wp2_with fail;go_loopw [5] (fun i wr=>∃k:Nat,k≤o.preds.length∧i=.int .i64 k∧(∀j (h:j<o.preds.length),j<k→(!rootB o.preds[j]&&idOkB o.preds[j].1 o.preds[j].2)=true)∧Below w.heap.size w wr∧wr.heap[w.heap.size]?=some (.cells (opA o o.ins (.slice a o.preds.length cap)) 62)) (fun i _=>o.preds.length - (RowKit.intOf i).toNat)
 case atStart=>exact⟨0,Nat.zero_le _,rfl,fun j _ h=>by omega,B2,X2⟩
 case round=>
  clear B2 X2 y0;obtain⟨k,hk,rfl,hok,hbel,hX⟩:=hrel;have hz:=hbel.size;obtain⟨-,-,-,-,-,-,-,-,-,-,-,-,c12,-⟩:=cLs hX;by_cases hlt:k<o.preds.length
  ·obtain⟨b,off,rfl,h4,h5⟩:=H3.out (fun e=>by rw[e] at hlt;simp at hlt);have x0:wr.cell? ⟨b,off+k*2,none⟩=some (.int .i64 o.preds[k].1):=by rw[hbel.cell (p:=⟨b,off+k*2,none⟩) h4];exact(h5 k hlt).1
   have x1:wr.cell? ⟨b,off+k*2+1,none⟩=some (.int .i64 o.preds[k].2):=by rw[hbel.cell (p:=⟨b,off+k*2+1,none⟩) h4];exact(h5 k hlt).2
   have g1:(k:Int)<o.preds.length:=by omega
   have RR:=fun W=>rReal_any o.preds[k].1 o.preds[k].2 W;have HE:Hid ((o.preds[k].1,o.preds[k].2)=o.preds[k]):=rfl;rw[HE.out] at RR;cases hR:(!rootB o.preds[k]&&idOkB o.preds[k].1 o.preds[k].2) with
   | false=>
    have HN:Hid (¬chkOp o=0):=by
     intro e;have h6:=(HZ.out.1 e).1.2;rw[HI2.out,all_at] at h6;have h7:=h6 k hlt;rw[hR] at h7;cases h7
    simp only[hR] at RR;clear hok h5 HE hR;generalize o.preds[k]=y at *;go_wp2_with fail;refine(RR _).mono ?_;rintro e w3 ⟨rfl,b3⟩;go_wp2;go_ret;exact⟨⟨1,rfl,by simpa using HN.out⟩,hbel.trans (b3.mono hz)⟩
   | true=>
    have HH:Hid (∀j (h:j<o.preds.length),j<k+1→(!rootB o.preds[j]&&idOkB o.preds[j].1 o.preds[j].2)=true):=by
     intro j h hj;by_cases e2:j=k
     ·subst e2;exact hR
     ·exact hok j h (by omega)
    simp only[hR] at RR;clear hok h5 HE hR;generalize o.preds[k]=y at *;go_wp2_with fail;refine(RR _).mono ?_;rintro e w3 ⟨rfl,b3⟩;have X3:=heap_below hX b3 lRf;clear x0 x1 c12;go_wp2;go_roundw
    case rel=>exact⟨k+1,by omega,by go_num,HH.out,hbel.trans (b3.mono hz),X3⟩
    case measure=>simp[RowKit.intOf];omega
  ·have HI3:Hid (hasIdsB o=true):=by show _=_;rw[HI2.out,all_at];exact fun i hi=>hok i hi (by omega)
   have g1:¬(k:Int)<o.preds.length:=by omega
   obtain⟨-,-,-,c3,-⟩:=cLs hX;clear hok HI2;by_cases hks:20<o.key.size
   ·have HN:Hid (¬chkOp o=0):=by intro e;have:=(HZ.out.1 e).2.1.1;omega
    have g2:(20:Int)<o.key.size:=by omega
    go_wp2;go_ret;exact⟨⟨4,rfl,by simpa using HN.out⟩,hbel⟩
   have g2:¬(20:Int)<o.key.size:=by omega
   by_cases hps:12<o.preds.length
   ·have HN:Hid (¬chkOp o=0):=by intro e;have:=(HZ.out.1 e).2.1.2;omega
    have g3:(12:Int)<o.preds.length:=by omega
    go_wp2;go_ret;exact⟨⟨4,rfl,by simpa using HN.out⟩,hbel⟩
   have g3:¬(12:Int)<o.preds.length:=by omega
   go_wp2_with fail;go_loopw [7] (fun i wr=>∃k:Nat,1≤k∧i=.int .i64 k∧(∀j (h:j+1<o.preds.length),j+1<k→lessB o.preds[j].1 o.preds[j].2 o.preds[j+1].1 o.preds[j+1].2=true)∧(k≤o.preds.length∨k=1)∧Below w.heap.size w wr∧wr.heap[w.heap.size]?=some (.cells (opA o o.ins (.slice a o.preds.length cap)) 62)) (fun i _=>o.preds.length - (RowKit.intOf i).toNat)
   case atStart=>exact⟨1,lRf,rfl,fun j _ h=>by omega,Or.inr rfl,hbel,hX⟩
   case round=>
    clear hbel hX hz c12 c3;obtain⟨k,hk1,rfl,hch,hk,hbel,hX⟩:=hrel;have hz:=hbel.size;obtain⟨-,-,-,-,-,-,-,-,-,-,-,-,c12,-⟩:=cLs hX;by_cases hlt:k<o.preds.length
    ·obtain⟨b,off,rfl,h4,h5⟩:=H3.out (fun e=>by rw[e] at hlt;simp at hlt);have hk0:k - 1<o.preds.length:=by omega
     have x0:wr.cell? ⟨b,off+k*2,none⟩=some (.int .i64 o.preds[k].1):=by rw[hbel.cell (p:=⟨b,off+k*2,none⟩) h4];exact(h5 k hlt).1
     have x1:wr.cell? ⟨b,off+k*2+1,none⟩=some (.int .i64 o.preds[k].2):=by rw[hbel.cell (p:=⟨b,off+k*2+1,none⟩) h4];exact(h5 k hlt).2
     have y0:wr.cell? ⟨b,off+(k - 1)*2,none⟩=some (.int .i64 o.preds[k - 1].1):=by rw[hbel.cell (p:=⟨b,off+(k - 1)*2,none⟩) h4];exact(h5 (k - 1) hk0).1
     have y1:wr.cell? ⟨b,off+(k - 1)*2+1,none⟩=some (.int .i64 o.preds[k - 1].2):=by rw[hbel.cell (p:=⟨b,off+(k - 1)*2+1,none⟩) h4];exact(h5 (k - 1) hk0).2
     have g1:(k:Int)<o.preds.length:=by omega
     have dw:IntKind.i64.wrap ((k:Int) - 1)=(k:Int) - 1:=IntWalk.i64_in _ (by omega);have dw2:0≤(k:Int) - 1∧(k:Int) - 1<o.preds.length:=by omega
     have dw3:((k:Int) - 1).toNat=k - 1:=by omega
     have HC2:Hid (lessB o.preds[k - 1].1 o.preds[k - 1].2 o.preds[k].1 o.preds[k].2=true→∀j (h:j+1<o.preds.length),j+1<k+1→lessB o.preds[j].1 o.preds[j].2 o.preds[j+1].1 o.preds[j+1].2=true):=by
      intro hle j h hj;by_cases e:j+1<k
      ·exact hch j h e
      ·obtain rfl:j=k - 1:=by omega
       have e2:k - 1+1=k:=by omega
       simp only[e2];exact hle
     have HN:Hid (lessB o.preds[k - 1].1 o.preds[k - 1].2 o.preds[k].1 o.preds[k].2=false→¬chkOp o=0):=by
      intro hle e;have h6:=(HZ.out.1 e).2.2.1;unfold risesB at h6;have:=(chainB_iff _ _).1 h6 (k - 1) (by omega);have e2:k - 1+1=k:=by omega
      simp only[e2] at this;rw[hle] at this;cases this
     clear hch h5;generalize o.preds[k]=y at *;generalize o.preds[k - 1]=x at *;have L:=fun W=>rLess_any x.1 x.2 y.1 y.2 W;have HX:Hid (wr.heap[w.heap.size]?=some (.cells _ 62)):=hX;clear hX;cases hL:lessB x.1 x.2 y.1 y.2 with
     | true=>
      rw[hL] at HC2;simp only[hL] at L;clear hL HN;go_wp2;go_region_with (go_at_call 133;refine(L _).mono ?_;rintro e w3 ⟨rfl,b3⟩);all_goals
       have B3:Below w.heap.size w w3:=hbel.drew.trans (b3.mono hz);have HX3:Hid _:=heap_below HX.out ((Below.refl _ wr).drew.trans b3) lRf;clear x0 x1 y0 y1 c12;go_wp2;go_roundw
       case rel=>exact⟨k+1,by omega,by go_num,HC2.out trivial,Or.inl (by omega),B3,HX3.out⟩
       case measure=>simp[RowKit.intOf];omega
     | false=>
      rw[hL] at HN;simp only[hL] at L;clear hL HC2;go_wp2;go_region_with (go_at_call 133;refine(L _).mono ?_;rintro e w3 ⟨rfl,b3⟩);all_goals
       have B3:Below w.heap.size w w3:=hbel.drew.trans (b3.mono hz);go_wp2;go_ret;exact⟨⟨5,rfl,by simpa using HN.out trivial⟩,B3⟩
    ·have HRS:Hid (risesB o.preds=true):=by
      show _=_;unfold risesB;rw[chainB_iff];intro i hi;exact hch i hi (by omega)
     have g1:¬(k:Int)<o.preds.length:=by omega
     obtain⟨-,-,-,c3,c4,c5,-⟩:=cLs hX;have HT0:Hid (chkOp o=0↔(((!o.key.toList.isEmpty) !=(!rootB o.elem || o.ins))=true∧(o.ins=true→(decide (o.kind=1∨o.kind=2)&&o.preds.isEmpty)=true))∧(okB o.val=true∧mayHaveB o.kind o.val=true)∧(needsB o.kind=true→o.preds.isEmpty=false)):=by
      show _↔_;rw[HZ.out];have e1:fromB o.kind 4=true:=by unfold fromB;rw[decide_eq_true_eq];omega
      have e2:o.key.size≤20∧o.preds.length≤12:=by omega
      have e3:=HI3.out;have e4:=HRS.out;constructor
      ·rintro⟨_,_,_,h,h',h''⟩;exact⟨h,h',h''⟩
      ·rintro⟨h,h',h''⟩;exact⟨⟨e1,e3⟩,e2,e4,h,h',h''⟩
     have RR:=fun W=>rRoot_any o.elem.1 o.elem.2 W;have HRE:Hid (decide (o.elem.1=0∧o.elem.2=0)=rootB o.elem):=rfl;rw[HRE.out] at RR;clear hch HZ HI3 HRS HRE g2 g3;go_wp2_with fail;refine(RR _).mono ?_;rintro e w5 ⟨rfl,b5⟩;have B5:Below w.heap.size w w5:=hbel.trans (b5.mono hz);have X5:=heap_below hX b5 lRf;clear hbel hX hz c12 c3 c4 c5 RR b5;obtain⟨c0,-,-,-,-,-,c6,-,-,-,-,-,c12,-⟩:=cLs X5;have HX5:Hid (w5.heap[w.heap.size]?=some (.cells (opA o o.ins (.slice a o.preds.length cap)) 62)):=X5;clear X5;have hpe0:o.preds.isEmpty=true↔o.preds.length=0:=by cases o.preds <;> simp
     have HPE:Hid (o.preds.isEmpty=true↔o.preds.length=0):=hpe0;clear hpe0;generalize o.key.toList.isEmpty=p at *;generalize rootB o.elem=q at *;obtain⟨i,hi⟩:∃i,i=o.ins:=⟨_,rfl⟩
     rw[←hi] at c6 HT0;clear hi;cases p with
     | true=>
      cases q with
      | true=>
       cases i with
       | true=>
        by_cases k2:2<o.kind
        ·have HN:Hid (¬chkOp o=0):=by
          intro e;have h9:=(HT0.out.1 e).1.2 rfl;simp at h9;omega
         clear HT0;go_wp2;go_ret;exact⟨⟨3,rfl,by simpa using HN.out⟩,B5⟩
        ·by_cases l0:0<o.preds.length
         ·have HN:Hid (¬chkOp o=0):=by
           intro e;have h9:=(HT0.out.1 e).1.2 rfl;rw[Bool.and_eq_true,HPE.out] at h9;omega
          have g5:(0:Int)<o.preds.length:=by omega
          clear HT0;go_wp2;go_ret;exact⟨⟨3,rfl,by simpa using HN.out⟩,B5⟩
         ·have g5:¬(0:Int)<o.preds.length:=by omega
          have HT:Hid (chkOp o=0↔(okB o.val=true∧mayHaveB o.kind o.val=true)∧(needsB o.kind=true→o.preds.isEmpty=false)):=by
           show _↔_;rw[HT0.out];have e5:o.preds.isEmpty=true:=HPE.out.2 (by omega);have e6:o.kind=1∨o.kind=2:=by omega
           simp[e5,e6]
          clear HT0 HPE;obtain⟨-,-,-,-,-,-,-,z7,z8,z9,z10,z11,-⟩:=cLs HX5.out;have VV:=fun W=>rValue_any o.val W;have OO:=fun W=>rObject_any o.val W;unfold V.val at VV OO;go_wp2_with fail;refine(VV _).mono ?_;rintro e w6 ⟨rfl,b6⟩;have B6:Below w.heap.size w w6:=B5.trans (b6.mono B5.size);have X6:=heap_below HX5.out b6 lRf;clear b6 VV z7 z8 z9 z10 z11;cases hok:okB o.val with
          | false=>
           have HN:Hid (¬chkOp o=0):=by
            intro e;have:=(HT.out.1 e).1.1;rw[hok] at this;cases this
           clear hok;go_wp2;go_ret;exact⟨⟨1,rfl,by simpa using HN.out⟩,B6⟩
          | true=>
           have HT2:Hid (chkOp o=0↔mayHaveB o.kind o.val=true∧(needsB o.kind=true→o.preds.isEmpty=false)):=by show _↔_;rw[HT.out,hok];simp
           obtain⟨-,-,-,-,-,-,-,z7,z8,z9,z10,z11,-⟩:=cLs X6;clear hok HT;go_wp2_with fail;refine(OO _).mono ?_;rintro e w7 ⟨rfl,b7⟩;have B7:Below w.heap.size w w7:=B6.trans (b7.mono B6.size);have X7:=heap_below X6 b7 lRf;obtain⟨t0,-,-,-,-,-,-,t7,-,-,t10,t11,t12,-⟩:=cLs X7;clear b7 OO z7 z8 z9 z10 z11 B6 X6;obtain⟨d,hd⟩:∃d,d=decide (o.val.k=5∨o.val.k=6):=⟨_,rfl⟩
           rw[←hd];by_cases m1:o.kind=1
           ·rw[m1] at t0 HT2;have HM:Hid (chkOp o=0↔d=false):=by show _↔_;rw[HT2.out,hd];simp[mayHaveB,needsB]
            clear hd HT2 t7 t10 t11 k1 k4;cases d with
            | true=>
             go_wp2;go_ret;exact⟨⟨1,rfl,by rw[HM.out];simp⟩,B7⟩
            | false=>
             go_wp2;go_ret;exact⟨⟨0,rfl,by rw[HM.out];simp⟩,B7⟩
           by_cases m2:o.kind=2
           ·rw[m2] at t0 HT2;have HM:Hid (chkOp o=0↔d=true∧rootB (o.val.o,o.val.a)=true):=by show _↔_;rw[HT2.out,hd];simp[mayHaveB,needsB]
            clear hd HT2 t7 k1 k4 m1;cases d with
            | false=>
             go_wp2;go_ret;exact⟨⟨1,rfl,by rw[HM.out];simp⟩,B7⟩
            | true=>
             have RR:=fun W=>rRoot_any o.val.o o.val.a W;have HRE:Hid (decide (o.val.o=0∧o.val.a=0)=rootB (o.val.o,o.val.a)):=rfl;rw[HRE.out] at RR;go_wp2_with fail;refine(RR _).mono ?_;rintro e w8 ⟨rfl,b8⟩;have B8:Below w.heap.size w w8:=B7.trans (b8.mono B7.size);have X8:=heap_below X7 b8 lRf;have u0:w8.cell? ⟨w.heap.size,0,none⟩=some (.int .i64 2):=(cLo X8 0).trans (by simp[m2]);clear b8 RR HRE t0 t10 t11 t12;cases hR:rootB (o.val.o,o.val.a) with
             | true=>
              rw[hR] at HM;clear hR;go_wp2;go_ret;exact⟨⟨0,rfl,by rw[HM.out];simp⟩,B8⟩
             | false=>
              rw[hR] at HM;clear hR;go_wp2;go_ret;exact⟨⟨1,rfl,by rw[HM.out];simp⟩,B8⟩
           exact absurd k2 (by omega)
       | false=>
        have HN:Hid (¬chkOp o=0):=by
         intro e;have h9:=(HT0.out.1 e).1.1;simp at h9
        clear HT0;go_wp2;go_ret;exact⟨⟨3,rfl,by simpa using HN.out⟩,B5⟩
      | false=>
       cases i with
       | true=>
        by_cases k2:2<o.kind
        ·have HN:Hid (¬chkOp o=0):=by
          intro e;have h9:=(HT0.out.1 e).1.2 rfl;simp at h9;omega
         clear HT0;go_wp2;go_ret;exact⟨⟨3,rfl,by simpa using HN.out⟩,B5⟩
        ·by_cases l0:0<o.preds.length
         ·have HN:Hid (¬chkOp o=0):=by
           intro e;have h9:=(HT0.out.1 e).1.2 rfl;rw[Bool.and_eq_true,HPE.out] at h9;omega
          have g5:(0:Int)<o.preds.length:=by omega
          clear HT0;go_wp2;go_ret;exact⟨⟨3,rfl,by simpa using HN.out⟩,B5⟩
         ·have g5:¬(0:Int)<o.preds.length:=by omega
          have HT:Hid (chkOp o=0↔(okB o.val=true∧mayHaveB o.kind o.val=true)∧(needsB o.kind=true→o.preds.isEmpty=false)):=by
           show _↔_;rw[HT0.out];have e5:o.preds.isEmpty=true:=HPE.out.2 (by omega);have e6:o.kind=1∨o.kind=2:=by omega
           simp[e5,e6]
          clear HT0 HPE;obtain⟨-,-,-,-,-,-,-,z7,z8,z9,z10,z11,-⟩:=cLs HX5.out;have VV:=fun W=>rValue_any o.val W;have OO:=fun W=>rObject_any o.val W;unfold V.val at VV OO;go_wp2_with fail;refine(VV _).mono ?_;rintro e w6 ⟨rfl,b6⟩;have B6:Below w.heap.size w w6:=B5.trans (b6.mono B5.size);have X6:=heap_below HX5.out b6 lRf;clear b6 VV z7 z8 z9 z10 z11;cases hok:okB o.val with
          | false=>
           have HN:Hid (¬chkOp o=0):=by
            intro e;have:=(HT.out.1 e).1.1;rw[hok] at this;cases this
           clear hok;go_wp2;go_ret;exact⟨⟨1,rfl,by simpa using HN.out⟩,B6⟩
          | true=>
           have HT2:Hid (chkOp o=0↔mayHaveB o.kind o.val=true∧(needsB o.kind=true→o.preds.isEmpty=false)):=by show _↔_;rw[HT.out,hok];simp
           obtain⟨-,-,-,-,-,-,-,z7,z8,z9,z10,z11,-⟩:=cLs X6;clear hok HT;go_wp2_with fail;refine(OO _).mono ?_;rintro e w7 ⟨rfl,b7⟩;have B7:Below w.heap.size w w7:=B6.trans (b7.mono B6.size);have X7:=heap_below X6 b7 lRf;obtain⟨t0,-,-,-,-,-,-,t7,-,-,t10,t11,t12,-⟩:=cLs X7;clear b7 OO z7 z8 z9 z10 z11 B6 X6;obtain⟨d,hd⟩:∃d,d=decide (o.val.k=5∨o.val.k=6):=⟨_,rfl⟩
           rw[←hd];by_cases m1:o.kind=1
           ·rw[m1] at t0 HT2;have HM:Hid (chkOp o=0↔d=false):=by show _↔_;rw[HT2.out,hd];simp[mayHaveB,needsB]
            clear hd HT2 t7 t10 t11 k1 k4;cases d with
            | true=>
             go_wp2;go_ret;exact⟨⟨1,rfl,by rw[HM.out];simp⟩,B7⟩
            | false=>
             go_wp2;go_ret;exact⟨⟨0,rfl,by rw[HM.out];simp⟩,B7⟩
           by_cases m2:o.kind=2
           ·rw[m2] at t0 HT2;have HM:Hid (chkOp o=0↔d=true∧rootB (o.val.o,o.val.a)=true):=by show _↔_;rw[HT2.out,hd];simp[mayHaveB,needsB]
            clear hd HT2 t7 k1 k4 m1;cases d with
            | false=>
             go_wp2;go_ret;exact⟨⟨1,rfl,by rw[HM.out];simp⟩,B7⟩
            | true=>
             have RR:=fun W=>rRoot_any o.val.o o.val.a W;have HRE:Hid (decide (o.val.o=0∧o.val.a=0)=rootB (o.val.o,o.val.a)):=rfl;rw[HRE.out] at RR;go_wp2_with fail;refine(RR _).mono ?_;rintro e w8 ⟨rfl,b8⟩;have B8:Below w.heap.size w w8:=B7.trans (b8.mono B7.size);have X8:=heap_below X7 b8 lRf;have u0:w8.cell? ⟨w.heap.size,0,none⟩=some (.int .i64 2):=(cLo X8 0).trans (by simp[m2]);clear b8 RR HRE t0 t10 t11 t12;cases hR:rootB (o.val.o,o.val.a) with
             | true=>
              rw[hR] at HM;clear hR;go_wp2;go_ret;exact⟨⟨0,rfl,by rw[HM.out];simp⟩,B8⟩
             | false=>
              rw[hR] at HM;clear hR;go_wp2;go_ret;exact⟨⟨1,rfl,by rw[HM.out];simp⟩,B8⟩
           exact absurd k2 (by omega)
       | false=>
        have HT:Hid (chkOp o=0↔(okB o.val=true∧mayHaveB o.kind o.val=true)∧(needsB o.kind=true→o.preds.isEmpty=false)):=by
         show _↔_;rw[HT0.out];simp
        clear HT0 HPE;obtain⟨-,-,-,-,-,-,-,z7,z8,z9,z10,z11,-⟩:=cLs HX5.out;have VV:=fun W=>rValue_any o.val W;have OO:=fun W=>rObject_any o.val W;unfold V.val at VV OO;go_wp2_with fail;refine(VV _).mono ?_;rintro e w6 ⟨rfl,b6⟩;have B6:Below w.heap.size w w6:=B5.trans (b6.mono B5.size);have X6:=heap_below HX5.out b6 lRf;clear b6 VV z7 z8 z9 z10 z11;cases hok:okB o.val with
        | false=>
         have HN:Hid (¬chkOp o=0):=by
          intro e;have:=(HT.out.1 e).1.1;rw[hok] at this;cases this
         clear hok;go_wp2;go_ret;exact⟨⟨1,rfl,by simpa using HN.out⟩,B6⟩
        | true=>
         have HT2:Hid (chkOp o=0↔mayHaveB o.kind o.val=true∧(needsB o.kind=true→o.preds.isEmpty=false)):=by show _↔_;rw[HT.out,hok];simp
         obtain⟨-,-,-,-,-,-,-,z7,z8,z9,z10,z11,-⟩:=cLs X6;clear hok HT;go_wp2_with fail;refine(OO _).mono ?_;rintro e w7 ⟨rfl,b7⟩;have B7:Below w.heap.size w w7:=B6.trans (b7.mono B6.size);have X7:=heap_below X6 b7 lRf;obtain⟨t0,-,-,-,-,-,-,t7,-,-,t10,t11,t12,-⟩:=cLs X7;clear b7 OO z7 z8 z9 z10 z11 B6 X6;obtain⟨d,hd⟩:∃d,d=decide (o.val.k=5∨o.val.k=6):=⟨_,rfl⟩
         rw[←hd];by_cases m1:o.kind=1
         ·rw[m1] at t0 HT2;have HM:Hid (chkOp o=0↔d=false):=by show _↔_;rw[HT2.out,hd];simp[mayHaveB,needsB]
          clear hd HT2 t7 t10 t11 k1 k4;cases d with
          | true=>
           go_wp2;go_ret;exact⟨⟨1,rfl,by rw[HM.out];simp⟩,B7⟩
          | false=>
           go_wp2;go_ret;exact⟨⟨0,rfl,by rw[HM.out];simp⟩,B7⟩
         by_cases m2:o.kind=2
         ·rw[m2] at t0 HT2;have HM:Hid (chkOp o=0↔d=true∧rootB (o.val.o,o.val.a)=true):=by show _↔_;rw[HT2.out,hd];simp[mayHaveB,needsB]
          clear hd HT2 t7 k1 k4 m1;cases d with
          | false=>
           go_wp2;go_ret;exact⟨⟨1,rfl,by rw[HM.out];simp⟩,B7⟩
          | true=>
           have RR:=fun W=>rRoot_any o.val.o o.val.a W;have HRE:Hid (decide (o.val.o=0∧o.val.a=0)=rootB (o.val.o,o.val.a)):=rfl;rw[HRE.out] at RR;go_wp2_with fail;refine(RR _).mono ?_;rintro e w8 ⟨rfl,b8⟩;have B8:Below w.heap.size w w8:=B7.trans (b8.mono B7.size);have X8:=heap_below X7 b8 lRf;have u0:w8.cell? ⟨w.heap.size,0,none⟩=some (.int .i64 2):=(cLo X8 0).trans (by simp[m2]);clear b8 RR HRE t0 t10 t11 t12;cases hR:rootB (o.val.o,o.val.a) with
           | true=>
            rw[hR] at HM;clear hR;go_wp2;go_ret;exact⟨⟨0,rfl,by rw[HM.out];simp⟩,B8⟩
           | false=>
            rw[hR] at HM;clear hR;go_wp2;go_ret;exact⟨⟨1,rfl,by rw[HM.out];simp⟩,B8⟩
         have hpe:o.preds.isEmpty=false↔¬o.preds.length=0:=by cases o.preds <;> simp
         by_cases m3:o.kind=3
         ·rw[m3] at t0 HT2;have HM:Hid (chkOp o=0↔o.val.k=0∧¬o.preds.length=0):=by show _↔_;rw[HT2.out,hpe];simp[mayHaveB,needsB]
          clear hd HT2 t10 t11 k1 k4 m1 m2 hpe;by_cases hv0:o.val.k=0
          ·rw[hv0] at t7;by_cases hl0:o.preds.length=0
           ·rw[hl0] at t12;go_wp2;go_ret;exact⟨⟨3,rfl,by rw[HM.out];simp[hl0]⟩,B7⟩
           ·have q0:((o.preds.length:Int)==0)=false:=by rw[beq_eq_false_iff_ne];omega
            go_wp2;go_ret;exact⟨⟨0,rfl,by rw[HM.out];exact⟨fun _=>⟨hv0,hl0⟩,fun _=>rfl⟩⟩,B7⟩
          ·have q0:(o.val.k==0)=false:=by rw[beq_eq_false_iff_ne];exact hv0
           go_wp2;go_ret;exact⟨⟨1,rfl,by rw[HM.out];simp[hv0]⟩,B7⟩
         have m4:o.kind=4:=by omega
         rw[m4] at t0 HT2;have HM:Hid (chkOp o=0↔o.val.k=2∧¬o.preds.length=0):=by show _↔_;rw[HT2.out,hpe];simp[mayHaveB,needsB]
         clear hd HT2 t10 t11 k1 k4 m1 m2 m3 hpe;by_cases hv0:o.val.k=2
         ·rw[hv0] at t7;by_cases hl0:o.preds.length=0
          ·rw[hl0] at t12;go_wp2;go_ret;exact⟨⟨3,rfl,by rw[HM.out];simp[hl0]⟩,B7⟩
          ·have q0:((o.preds.length:Int)==0)=false:=by rw[beq_eq_false_iff_ne];omega
           go_wp2;go_ret;exact⟨⟨0,rfl,by rw[HM.out];exact⟨fun _=>⟨hv0,hl0⟩,fun _=>rfl⟩⟩,B7⟩
         ·have q0:(o.val.k==2)=false:=by rw[beq_eq_false_iff_ne];exact hv0
          go_wp2;go_ret;exact⟨⟨1,rfl,by rw[HM.out];simp[hv0]⟩,B7⟩
     | false=>
      cases q with
      | true=>
       cases i with
       | true=>
        have HN:Hid (¬chkOp o=0):=by
         intro e;have h9:=(HT0.out.1 e).1.1;simp at h9
        clear HT0;go_wp2;go_ret;exact⟨⟨3,rfl,by simpa using HN.out⟩,B5⟩
       | false=>
        have HT:Hid (chkOp o=0↔(okB o.val=true∧mayHaveB o.kind o.val=true)∧(needsB o.kind=true→o.preds.isEmpty=false)):=by
         show _↔_;rw[HT0.out];simp
        clear HT0 HPE;obtain⟨-,-,-,-,-,-,-,z7,z8,z9,z10,z11,-⟩:=cLs HX5.out;have VV:=fun W=>rValue_any o.val W;have OO:=fun W=>rObject_any o.val W;unfold V.val at VV OO;go_wp2_with fail;refine(VV _).mono ?_;rintro e w6 ⟨rfl,b6⟩;have B6:Below w.heap.size w w6:=B5.trans (b6.mono B5.size);have X6:=heap_below HX5.out b6 lRf;clear b6 VV z7 z8 z9 z10 z11;cases hok:okB o.val with
        | false=>
         have HN:Hid (¬chkOp o=0):=by
          intro e;have:=(HT.out.1 e).1.1;rw[hok] at this;cases this
         clear hok;go_wp2;go_ret;exact⟨⟨1,rfl,by simpa using HN.out⟩,B6⟩
        | true=>
         have HT2:Hid (chkOp o=0↔mayHaveB o.kind o.val=true∧(needsB o.kind=true→o.preds.isEmpty=false)):=by show _↔_;rw[HT.out,hok];simp
         obtain⟨-,-,-,-,-,-,-,z7,z8,z9,z10,z11,-⟩:=cLs X6;clear hok HT;go_wp2_with fail;refine(OO _).mono ?_;rintro e w7 ⟨rfl,b7⟩;have B7:Below w.heap.size w w7:=B6.trans (b7.mono B6.size);have X7:=heap_below X6 b7 lRf;obtain⟨t0,-,-,-,-,-,-,t7,-,-,t10,t11,t12,-⟩:=cLs X7;clear b7 OO z7 z8 z9 z10 z11 B6 X6;obtain⟨d,hd⟩:∃d,d=decide (o.val.k=5∨o.val.k=6):=⟨_,rfl⟩
         rw[←hd];by_cases m1:o.kind=1
         ·rw[m1] at t0 HT2;have HM:Hid (chkOp o=0↔d=false):=by show _↔_;rw[HT2.out,hd];simp[mayHaveB,needsB]
          clear hd HT2 t7 t10 t11 k1 k4;cases d with
          | true=>
           go_wp2;go_ret;exact⟨⟨1,rfl,by rw[HM.out];simp⟩,B7⟩
          | false=>
           go_wp2;go_ret;exact⟨⟨0,rfl,by rw[HM.out];simp⟩,B7⟩
         by_cases m2:o.kind=2
         ·rw[m2] at t0 HT2;have HM:Hid (chkOp o=0↔d=true∧rootB (o.val.o,o.val.a)=true):=by show _↔_;rw[HT2.out,hd];simp[mayHaveB,needsB]
          clear hd HT2 t7 k1 k4 m1;cases d with
          | false=>
           go_wp2;go_ret;exact⟨⟨1,rfl,by rw[HM.out];simp⟩,B7⟩
          | true=>
           have RR:=fun W=>rRoot_any o.val.o o.val.a W;have HRE:Hid (decide (o.val.o=0∧o.val.a=0)=rootB (o.val.o,o.val.a)):=rfl;rw[HRE.out] at RR;go_wp2_with fail;refine(RR _).mono ?_;rintro e w8 ⟨rfl,b8⟩;have B8:Below w.heap.size w w8:=B7.trans (b8.mono B7.size);have X8:=heap_below X7 b8 lRf;have u0:w8.cell? ⟨w.heap.size,0,none⟩=some (.int .i64 2):=(cLo X8 0).trans (by simp[m2]);clear b8 RR HRE t0 t10 t11 t12;cases hR:rootB (o.val.o,o.val.a) with
           | true=>
            rw[hR] at HM;clear hR;go_wp2;go_ret;exact⟨⟨0,rfl,by rw[HM.out];simp⟩,B8⟩
           | false=>
            rw[hR] at HM;clear hR;go_wp2;go_ret;exact⟨⟨1,rfl,by rw[HM.out];simp⟩,B8⟩
         have hpe:o.preds.isEmpty=false↔¬o.preds.length=0:=by cases o.preds <;> simp
         by_cases m3:o.kind=3
         ·rw[m3] at t0 HT2;have HM:Hid (chkOp o=0↔o.val.k=0∧¬o.preds.length=0):=by show _↔_;rw[HT2.out,hpe];simp[mayHaveB,needsB]
          clear hd HT2 t10 t11 k1 k4 m1 m2 hpe;by_cases hv0:o.val.k=0
          ·rw[hv0] at t7;by_cases hl0:o.preds.length=0
           ·rw[hl0] at t12;go_wp2;go_ret;exact⟨⟨3,rfl,by rw[HM.out];simp[hl0]⟩,B7⟩
           ·have q0:((o.preds.length:Int)==0)=false:=by rw[beq_eq_false_iff_ne];omega
            go_wp2;go_ret;exact⟨⟨0,rfl,by rw[HM.out];exact⟨fun _=>⟨hv0,hl0⟩,fun _=>rfl⟩⟩,B7⟩
          ·have q0:(o.val.k==0)=false:=by rw[beq_eq_false_iff_ne];exact hv0
           go_wp2;go_ret;exact⟨⟨1,rfl,by rw[HM.out];simp[hv0]⟩,B7⟩
         have m4:o.kind=4:=by omega
         rw[m4] at t0 HT2;have HM:Hid (chkOp o=0↔o.val.k=2∧¬o.preds.length=0):=by show _↔_;rw[HT2.out,hpe];simp[mayHaveB,needsB]
         clear hd HT2 t10 t11 k1 k4 m1 m2 m3 hpe;by_cases hv0:o.val.k=2
         ·rw[hv0] at t7;by_cases hl0:o.preds.length=0
          ·rw[hl0] at t12;go_wp2;go_ret;exact⟨⟨3,rfl,by rw[HM.out];simp[hl0]⟩,B7⟩
          ·have q0:((o.preds.length:Int)==0)=false:=by rw[beq_eq_false_iff_ne];omega
           go_wp2;go_ret;exact⟨⟨0,rfl,by rw[HM.out];exact⟨fun _=>⟨hv0,hl0⟩,fun _=>rfl⟩⟩,B7⟩
         ·have q0:(o.val.k==2)=false:=by rw[beq_eq_false_iff_ne];exact hv0
          go_wp2;go_ret;exact⟨⟨1,rfl,by rw[HM.out];simp[hv0]⟩,B7⟩
      | false=>
       have HN:Hid (¬chkOp o=0):=by
        intro e;have h9:=(HT0.out.1 e).1.1;simp at h9
       clear HT0;go_wp2;go_ret;exact⟨⟨3,rfl,by simpa using HN.out⟩,B5⟩
end Go.Proofs.YtamhlgflbacjgaaGreat
