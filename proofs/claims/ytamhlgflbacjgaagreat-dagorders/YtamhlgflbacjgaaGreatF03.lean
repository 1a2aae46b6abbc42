/-
  What is proved: as each theorem says.
  Conditions: as each theorem says.
-/
import Derived.Test.YtamhlgflbacjgaaGreatF00
import Derived.Test.YtamhlgflbacjgaaGreatF02
import Derived.Test.YtamhlgflbacjgaaGreatF01
set_option maxRecDepth 100000
set_option maxHeartbeats 16000000
namespace Go.Proofs.YtamhlgflbacjgaaGreat
open Go.RowKit
structure OpBox (w:World) (g:Nat) (o:OpM) (vp:Value):Prop where
 c0:w.cell? ⟨g,0,none⟩=some (.int .i64 o.kind)
 c1:w.cell? ⟨g,1,none⟩=some (.int .i64 o.obj.1)
 c2:w.cell? ⟨g,2,none⟩=some (.int .i64 o.obj.2)
 c3:w.cell? ⟨g,3,none⟩=some (.string o.key)
 c4:w.cell? ⟨g,4,none⟩=some (.int .i64 o.elem.1)
 c5:w.cell? ⟨g,5,none⟩=some (.int .i64 o.elem.2)
 c6:w.cell? ⟨g,6,none⟩=some (.bool o.ins)
 c7:w.cell? ⟨g,7,none⟩=some (.int .i64 o.val.k)
 c8:w.cell? ⟨g,8,none⟩=some (.int .i64 o.val.n)
 c9:w.cell? ⟨g,9,none⟩=some (.string o.val.t)
 c10:w.cell? ⟨g,10,none⟩=some (.int .i64 o.val.o)
 c11:w.cell? ⟨g,11,none⟩=some (.int .i64 o.val.a)
 c12:w.cell? ⟨g,12,none⟩=some vp
theorem OpBox.of {w:World} {g:Nat} {o:OpM} {vp:Value} (h:w.heap[g]?=some (.cells (opCells o vp).toArray 62)):OpBox w g o vp:=
 ⟨cLo h 0,cLo h 1,cLo h 2,cLo h 3,cLo h 4,cLo h 5,cLo h 6,cLo h 7,cLo h 8,cLo h 9,cLo h 10,cLo h 11,cLo h 12⟩
theorem onePlace_any (o:OpM) (vp:Value) (w:World) (hv:IsPairs w vp o.preds):
 Calls Tryz.prog 102 #[opVal o vp] w fun e w'=>e=.returned (.bool (onePlaceB o))∧Below w.heap.size w w':=by
 have BA:Below w.heap.size w (w.alloc (.cells (opCells o vp).toArray 62)):=bAl w _;have hbx:=op_box (w:=w) (o:=o) (vp:=vp);obtain⟨a,cap,rfl,_⟩:=hv;have HO:Hid (onePlaceB o=((!o.key.toList.isEmpty) !=(!rootB o.elem || o.ins))):=rfl;unfold opVal opCells;have R:=fun W=>cRoot_any o.elem.1 o.elem.2 W;go_enter Tryz.func102,Tryz.ntmps102
 go_wp2_with fail;refine(R _).mono ?_;rintro e w1 ⟨rfl,b1⟩;have B1:Below w.heap.size w w1:=BA.trans (b1.mono BA.size);have X:=OpBox.of (heap_below hbx b1 lRf);have x6:=X.c6;clear X hbx BA b1 R;generalize o.key.toList.isEmpty=p at *;generalize o.ins=q at *;cases hA:rootB o.elem with
 | true=>
  rw[hA] at HO;clear hA;go_wp2;go_ret;exact⟨by rw[HO.out];rfl,B1⟩
 | false=>
  rw[hA] at HO;clear hA;go_wp2;go_ret;exact⟨by rw[HO.out];cases p <;> rfl,B1⟩
theorem mayInsert_any (o:OpM) (vp:Value) (w:World) (hv:IsPairs w vp o.preds):
 Calls Tryz.prog 103 #[opVal o vp] w fun e w'=>e=.returned (.bool (mayInsertB o))∧Below w.heap.size w w':=by
 have BA:∀x,Below w.heap.size w (w.alloc x):=fun x=>bAl w x;obtain⟨a,cap,rfl,-⟩:=hv;have HO:Hid (mayInsertB o=(decide (o.kind=1∨o.kind=2)&&o.preds.isEmpty)):=rfl;have hE:((o.preds.length:Int)==0)=o.preds.isEmpty:=by
  cases o.preds with
  | nil=>rfl
  | cons a r=>simp;omega
 unfold opVal opCells;generalize o.preds.isEmpty=p at *;generalize o.preds.length=n at *;generalize o.kind=k at *;by_cases h1:k=1
 ·subst h1;go_enter Tryz.func103,Tryz.ntmps103
  go_wp2;go_ret;exact⟨by rw[HO.out];rfl,BA _⟩
 ·have q1:(k==1)=false:=by simp[h1]
  by_cases h2:k=2
  ·subst h2;go_enter Tryz.func103,Tryz.ntmps103
   go_wp2;go_ret;exact⟨by rw[HO.out];rfl,BA _⟩
  ·have q2:(k==2)=false:=by simp[h2]
   have HK:Hid (decide (k=1∨k=2)=false):=by show _=_;simp[h1,h2]
   clear h1 h2;go_enter Tryz.func103,Tryz.ntmps103
   go_wp2;go_ret;exact⟨by rw[HO.out,HK.out];rfl,BA _⟩
theorem checkOp_any (o:OpM) (vp:Value) (w:World) (hv:IsPairs w vp o.preds):
 Calls Tryz.prog 69 #[opVal o vp] w fun e w'=>e=.returned (errV (chkOp o))∧Below w.heap.size w w':=by
 have BA:Below w.heap.size w (w.alloc (.cells (opCells o vp).toArray 62)):=bAl w _;have hbx:=op_box (w:=w) (o:=o) (vp:=vp);have V:=hv.below BA;obtain⟨a,cap,rfl,-⟩:=id hv;have HC:Hid (chkOp o=if (!fromB o.kind 4 || !hasIdsB o)=true then 1
  else if 20<o.key.size∨12<o.preds.length then 4
  else if risesB o.preds=false then 5
  else if (!onePlaceB o || (o.ins&& !mayInsertB o))=true then 3
  else if (!okB o.val || !mayHaveB o.kind o.val)=true then 1
  else if (needsB o.kind&&o.preds.isEmpty)=true then 3
  else 0):=rfl
 have hE:((o.preds.length:Int)==0)=o.preds.isEmpty:=by
  cases o.preds with
  | nil=>rfl
  | cons a r=>simp;omega
 have HI:=fun W h=>hasIds_any o (.slice a o.preds.length cap) W h;have HR:=fun W h=>rises_any (.slice a o.preds.length cap) o.preds W h;have HO:=fun W h=>onePlace_any o (.slice a o.preds.length cap) W h;have HM:=fun W h=>mayInsert_any o (.slice a o.preds.length cap) W h;unfold opVal opCells at HI HO HM;unfold opVal opCells;go_enter Tryz.func69,Tryz.ntmps69
 go_wp2_with fail;refine(isFrom1_any o.kind 4 _).mono ?_;rintro e w1 ⟨rfl,b1⟩;have B1:Below w.heap.size w w1:=BA.trans (b1.mono BA.size);have X1:=heap_below hbx b1 lRf;have V1:=V.below b1;clear BA hbx V b1;cases hA:fromB o.kind 4 with
 | false=>
  rw[hA] at HC;clear hA;go_wp2;go_ret;exact⟨by rw[HC.out];rfl,B1⟩
 | true=>
 rw[hA] at HC;clear hA;have Y:=OpBox.of X1;obtain⟨y0,y1,y2,y3,y4,y5,y6,y7,y8,y9,y10,y11,y12⟩:=Y;go_wp2_with fail;refine(HI _ V1).mono ?_;rintro e w2 ⟨rfl,b2⟩;have B2:Below w.heap.size w w2:=B1.trans (b2.mono B1.size);have X2:=heap_below X1 b2 lRf;have V2:=V1.below b2;clear y0 y1 y2 y3 y4 y5 y6 y7 y8 y9 y10 y11 y12 B1 X1 V1 b2 HI;cases hA:hasIdsB o with
 | false=>
  rw[hA] at HC;clear hA;go_wp2;go_ret;exact⟨by rw[HC.out];rfl,B2⟩
 | true=>
 rw[hA] at HC;clear hA;obtain⟨y0,y1,y2,y3,y4,y5,y6,y7,y8,y9,y10,y11,y12⟩:=OpBox.of X2;by_cases hk:20<o.key.size
 ·have HK:Hid (chkOp o=4):=by show _=_;rw[HC.out,if_neg (by decide),if_pos (Or.inl hk)]
  have g1:(20:Int)<o.key.size:=by omega
  clear HC;go_wp2;go_ret;exact⟨by rw[HK.out];rfl,B2⟩
 by_cases hn:12<o.preds.length
 ·have HK:Hid (chkOp o=4):=by show _=_;rw[HC.out,if_neg (by decide),if_pos (Or.inr hn)]
  have g1:¬(20:Int)<o.key.size:=by omega
  have g2:(12:Int)<o.preds.length:=by omega
  clear HC;go_wp2;go_ret;exact⟨by rw[HK.out];rfl,B2⟩
 have g1:¬(20:Int)<o.key.size:=by omega
 have g2:¬(12:Int)<o.preds.length:=by omega
 go_wp2_with fail;refine(HR _ V2).mono ?_;rintro e w3 ⟨rfl,b3⟩;have B3:Below w.heap.size w w3:=B2.trans (b3.mono B2.size);have X3:=heap_below X2 b3 lRf;have V3:=V2.below b3;clear y0 y1 y2 y3 y4 y5 y6 y7 y8 y9 y10 y11 y12 B2 X2 V2 b3 HR;cases hA:risesB o.preds with
 | false=>
  have HK:Hid (chkOp o=5):=by show _=_;rw[HC.out,if_neg (by decide),if_neg (by omega),if_pos hA]
  clear hA HC;go_wp2;go_ret;exact⟨by rw[HK.out];rfl,B3⟩
 | true=>
 rw[hA] at HC;clear hA;obtain⟨y0,y1,y2,y3,y4,y5,y6,y7,y8,y9,y10,y11,y12⟩:=OpBox.of X3;go_wp2_with fail;refine(HO _ V3).mono ?_;rintro e w4 ⟨rfl,b4⟩;have B4:Below w.heap.size w w4:=B3.trans (b4.mono B3.size);have X4:=heap_below X3 b4 lRf;have V4:=V3.below b4;clear y0 y1 y2 y3 y4 y5 y6 y7 y8 y9 y10 y11 y12 B3 X3 V3 b4 HO;cases hA:onePlaceB o with
 | false=>
  have HK:Hid (chkOp o=3):=by show _=_;rw[HC.out,if_neg (by decide),if_neg (by omega),if_neg (by decide),if_pos (by rw[hA];rfl)]
  clear hA HC;go_wp2;go_ret;exact⟨by rw[HK.out];rfl,B4⟩
 | true=>
 rw[hA] at HC;clear hA;have HV:=fun W=>checkV_any o.val W;have HH:=fun W=>mayHave_any o.kind o.val W;unfold V.val at HV HH;obtain⟨y0,y1,y2,y3,y4,y5,y6,y7,y8,y9,y10,y11,y12⟩:=OpBox.of X4;cases hI:o.ins with
 | false=>
  rw[hI] at HC y6;have HC2:=HC.out;rw[Bool.false_and] at HC2;clear HC;have HC:Hid _:=HC2;clear HC2;go_wp2_with fail;refine(HV _).mono ?_;rintro e w6 ⟨rfl,b6⟩;have B6:Below w.heap.size w w6:=B4.trans (b6.mono B4.size);have X6:=heap_below X4 b6 lRf;clear y0 y1 y2 y3 y4 y5 y6 y7 y8 y9 y10 y11 y12 B4 X4 b6;cases hA:okB o.val with
  | false=>
   have HK:Hid (chkOp o=1):=by show _=_;rw[HC.out,if_neg (by decide),if_neg (by omega),if_neg (by decide),if_neg (by decide),if_pos (by rw[hA];rfl)]
   clear hA HC;simp only[Bool.false_eq_true,if_false];go_wp2;go_ret;exact⟨by rw[HK.out];rfl,B6⟩
  | true=>
   rw[hA] at HC;clear hA;simp only[if_true];obtain⟨y0,y1,y2,y3,y4,y5,y6,y7,y8,y9,y10,y11,y12⟩:=OpBox.of X6;go_wp2_with fail;refine(HH _).mono ?_;rintro e w7 ⟨rfl,b7⟩;have B7:Below w.heap.size w w7:=B6.trans (b7.mono B6.size);have X7:=heap_below X6 b7 lRf;clear y0 y1 y2 y3 y4 y5 y6 y7 y8 y9 y10 y11 y12 B6 X6 b7;cases hA:mayHaveB o.kind o.val with
   | false=>
    have HK:Hid (chkOp o=1):=by show _=_;rw[HC.out,if_neg (by decide),if_neg (by omega),if_neg (by decide),if_neg (by decide),if_pos (by rw[hA];rfl)]
    clear hA HC;go_wp2;go_ret;exact⟨by rw[HK.out];rfl,B7⟩
   | true=>
    rw[hA] at HC;clear hA;obtain⟨y0,y1,y2,y3,y4,y5,y6,y7,y8,y9,y10,y11,y12⟩:=OpBox.of X7;go_wp2_with fail;refine(needs_any o.kind _).mono ?_;rintro e w8 ⟨rfl,b8⟩;have B8:Below w.heap.size w w8:=B7.trans (b8.mono B7.size);have X8:=heap_below X7 b8 lRf;clear y0 y1 y2 y3 y4 y5 y6 y7 y8 y9 y10 y11 y12 B7 X7 b8;have y12:=(OpBox.of X8).c12;cases hA:needsB o.kind with
    | false=>
     have HK:Hid (chkOp o=0):=by show _=_;rw[HC.out,if_neg (by decide),if_neg (by omega),if_neg (by decide),if_neg (by decide),if_neg (by decide),if_neg (by rw[hA];simp)]
     clear hA HC;go_wp2;go_ret;exact⟨by rw[HK.out];rfl,B8⟩
    | true=>
     rw[hA] at HC;clear hA;cases hp:o.preds.isEmpty with
     | true=>
      have HK:Hid (chkOp o=3):=by show _=_;rw[HC.out,if_neg (by decide),if_neg (by omega),if_neg (by decide),if_neg (by decide),if_neg (by decide),if_pos (by rw[hp];rfl)]
      rw[hp] at hE;clear hp HC;go_wp2;go_ret;exact⟨by rw[HK.out];rfl,B8⟩
     | false=>
      have HK:Hid (chkOp o=0):=by show _=_;rw[HC.out,if_neg (by decide),if_neg (by omega),if_neg (by decide),if_neg (by decide),if_neg (by decide),if_neg (by rw[hp];simp)]
      rw[hp] at hE;clear hp HC;go_wp2;go_ret;exact⟨by rw[HK.out];rfl,B8⟩
 | true=>
  rw[hI] at HC y6;simp only[hI] at HM;go_wp2_with fail;refine(HM _ V4).mono ?_;rintro e w5 ⟨rfl,b5⟩;have B5:Below w.heap.size w w5:=B4.trans (b5.mono B4.size);have X5:=heap_below X4 b5 lRf;clear y0 y1 y2 y3 y4 y5 y6 y7 y8 y9 y10 y11 y12 B4 X4 V4 b5 HM;cases hM:mayInsertB o with
  | false=>
   have HK:Hid (chkOp o=3):=by show _=_;rw[HC.out,if_neg (by decide),if_neg (by omega),if_neg (by decide),if_pos (by rw[hM];rfl)]
   clear hM HC;go_wp2;go_ret;exact⟨by rw[HK.out];rfl,B5⟩
  | true=>
   rw[hM] at HC;clear hM;obtain⟨y0,y1,y2,y3,y4,y5,y6,y7,y8,y9,y10,y11,y12⟩:=OpBox.of X5;go_wp2_with fail;refine(HV _).mono ?_;rintro e w6 ⟨rfl,b6⟩;have B6:Below w.heap.size w w6:=B5.trans (b6.mono B5.size);have X6:=heap_below X5 b6 lRf;clear y0 y1 y2 y3 y4 y5 y6 y7 y8 y9 y10 y11 y12 B5 X5 b6;cases hA:okB o.val with
   | false=>
    have HK:Hid (chkOp o=1):=by show _=_;rw[HC.out,if_neg (by decide),if_neg (by omega),if_neg (by decide),if_neg (by decide),if_pos (by rw[hA];rfl)]
    clear hA HC;simp only[Bool.false_eq_true,if_false];go_wp2;go_ret;exact⟨by rw[HK.out];rfl,B6⟩
   | true=>
    rw[hA] at HC;clear hA;simp only[if_true];obtain⟨y0,y1,y2,y3,y4,y5,y6,y7,y8,y9,y10,y11,y12⟩:=OpBox.of X6;go_wp2_with fail;refine(HH _).mono ?_;rintro e w7 ⟨rfl,b7⟩;have B7:Below w.heap.size w w7:=B6.trans (b7.mono B6.size);have X7:=heap_below X6 b7 lRf;clear y0 y1 y2 y3 y4 y5 y6 y7 y8 y9 y10 y11 y12 B6 X6 b7;cases hA:mayHaveB o.kind o.val with
    | false=>
     have HK:Hid (chkOp o=1):=by show _=_;rw[HC.out,if_neg (by decide),if_neg (by omega),if_neg (by decide),if_neg (by decide),if_pos (by rw[hA];rfl)]
     clear hA HC;go_wp2;go_ret;exact⟨by rw[HK.out];rfl,B7⟩
    | true=>
     rw[hA] at HC;clear hA;obtain⟨y0,y1,y2,y3,y4,y5,y6,y7,y8,y9,y10,y11,y12⟩:=OpBox.of X7;go_wp2_with fail;refine(needs_any o.kind _).mono ?_;rintro e w8 ⟨rfl,b8⟩;have B8:Below w.heap.size w w8:=B7.trans (b8.mono B7.size);have X8:=heap_below X7 b8 lRf;clear y0 y1 y2 y3 y4 y5 y6 y7 y8 y9 y10 y11 y12 B7 X7 b8;have y12:=(OpBox.of X8).c12;cases hA:needsB o.kind with
     | false=>
      have HK:Hid (chkOp o=0):=by show _=_;rw[HC.out,if_neg (by decide),if_neg (by omega),if_neg (by decide),if_neg (by decide),if_neg (by decide),if_neg (by rw[hA];simp)]
      clear hA HC;go_wp2;go_ret;exact⟨by rw[HK.out];rfl,B8⟩
     | true=>
      rw[hA] at HC;clear hA;cases hp:o.preds.isEmpty with
      | true=>
       have HK:Hid (chkOp o=3):=by show _=_;rw[HC.out,if_neg (by decide),if_neg (by omega),if_neg (by decide),if_neg (by decide),if_neg (by decide),if_pos (by rw[hp];rfl)]
       rw[hp] at hE;clear hp HC;go_wp2;go_ret;exact⟨by rw[HK.out];rfl,B8⟩
      | false=>
       have HK:Hid (chkOp o=0):=by show _=_;rw[HC.out,if_neg (by decide),if_neg (by omega),if_neg (by decide),if_neg (by decide),if_neg (by decide),if_neg (by rw[hp];simp)]
       rw[hp] at hE;clear hp HC;go_wp2;go_ret;exact⟨by rw[HK.out];rfl,B8⟩
theorem checkHead_any (v:Value) (c:Chg) (w:World) (hv:IsChg w v c):
 Calls Tryz.prog 68 #[v] w fun e w'=>e=.returned (errV (chkHead c))∧Below w.heap.size w w':=by
 obtain⟨ud,uo,l,rfl,i1,i2,i3,hd,ho,hl⟩:=hv;have hlen:l.length=c.ops.length:=by rw[←hl,List.length_map]
 have BA:Below w.heap.size w (w.alloc (.cells #[.int .i64 c.actor,.int .i64 c.seq,.int .i64 c.start,ud,uo] 33)):=bAl w _;have hbx:(w.alloc (.cells #[.int .i64 c.actor,.int .i64 c.seq,.int .i64 c.start,ud,uo] 33)).heap[w.heap.size]?=some (.cells #[.int .i64 c.actor,.int .i64 c.seq,.int .i64 c.start,ud,uo] 33):=(MapKept.heap_alloc w _).1;have D:=hd.below BA;obtain⟨ad,cd,rfl,-,hd2,-,-⟩:=id hd;obtain⟨ao,co,rfl,-,ho2,-,-⟩:=ho;rw[hlen] at *;have HC:Hid (chkHead c=if (fromB c.actor 99&&(fromB c.seq 1000000&&fromB c.start 1000000))=true then
  if 12<c.deps.length then 4 else if refsC c.deps=0 then (if 40<c.ops.length then 4 else if 1000000<c.start+c.ops.length - 1 then 1 else 0) else refsC c.deps
 else 1):=rfl
 have RC:Hid (refsC c.deps=0∨refsC c.deps=1∨refsC c.deps=5):=by
  show _∨_;unfold refsC;split
  ·split
   ·exact Or.inl rfl
   ·exact Or.inr (Or.inr rfl)
  ·exact Or.inr (Or.inl rfl)
 go_enter Tryz.func68,Tryz.ntmps68
 go_wp2_with fail;refine(isFrom1_any c.actor 99 _).mono ?_;rintro e w1 ⟨rfl,b1⟩;have B1:Below w.heap.size w w1:=BA.trans (b1.mono BA.size);have X1:=heap_below hbx b1 lRf;have D1:=D.below b1;clear BA hbx b1 D;cases hA:fromB c.actor 99 with
 | false=>
  rw[hA] at HC;clear hA;go_wp2;go_ret;exact⟨by rw[HC.out];rfl,B1⟩
 | true=>
 rw[hA] at HC;clear hA;obtain⟨-,y1,-⟩:=cLs X1;go_wp2_with fail;refine(isFrom1_any c.seq 1000000 _).mono ?_;rintro e w2 ⟨rfl,b2⟩;have B2:Below w.heap.size w w2:=B1.trans (b2.mono B1.size);have X2:=heap_below X1 b2 lRf;have D2:=D1.below b2;clear B1 X1 b2 y1 D1;cases hA:fromB c.seq 1000000 with
 | false=>
  rw[hA] at HC;clear hA;go_wp2;go_ret;exact⟨by rw[HC.out];rfl,B2⟩
 | true=>
 rw[hA] at HC;clear hA;obtain⟨-,-,y2,-⟩:=cLs X2;go_wp2_with fail;refine(isFrom1_any c.start 1000000 _).mono ?_;rintro e w3 ⟨rfl,b3⟩;have B3:Below w.heap.size w w3:=B2.trans (b3.mono B2.size);have X3:=heap_below X2 b3 lRf;have D3:=D2.below b3;clear B2 X2 b3 y2 D2;cases hA:fromB c.start 1000000 with
 | false=>
  rw[hA] at HC;clear hA;go_wp2;go_ret;exact⟨by rw[HC.out];rfl,B3⟩
 | true=>
 rw[hA] at HC;have hst:1≤c.start∧c.start≤1000000:=of_decide_eq_true hA;clear hA;obtain⟨-,-,z2,z3,-⟩:=cLs X3;by_cases hn:12<c.deps.length
 ·have HK:Hid (chkHead c=4):=by show _=_;rw[HC.out,if_pos (by decide),if_pos hn]
  have g2:(12:Int)<c.deps.length:=by omega
  clear HC;go_wp2;go_ret;exact⟨by rw[HK.out];rfl,B3⟩
 have g2:¬(12:Int)<c.deps.length:=by omega
 go_wp2_with fail;refine(idRefs_any _ c.deps w3 D3).mono ?_;rintro e w4 ⟨rfl,b4⟩;have B4:Below w.heap.size w w4:=B3.trans (b4.mono B3.size);have X4:=heap_below X3 b4 lRf;clear B3 X3 b4 z2 z3;obtain⟨-,-,z2,-,z4,-⟩:=cLs X4;have E1:errV 1=.iface 82 (.int .i64 1):=rfl;have E5:errV 5=.iface 82 (.int .i64 5):=rfl;have E0:errV 0=.nilIface:=rfl;rcases RC.out with hr | hr | hr
 ·rw[hr,E0];by_cases hn:40<c.ops.length
  ·have HK:Hid (chkHead c=4):=by show _=_;rw[HC.out,if_pos (by decide),if_neg (by omega),if_pos hr,if_pos hn]
   have g3:(40:Int)<c.ops.length:=by omega
   clear HC RC hr;go_wp2;go_ret;exact⟨by rw[HK.out];rfl,B4⟩
  ·have g3:¬(40:Int)<c.ops.length:=by omega
   by_cases hm:1000000<c.start+c.ops.length - 1
   ·have HK:Hid (chkHead c=1):=by show _=_;rw[HC.out,if_pos (by decide),if_neg (by omega),if_pos hr,if_neg hn,if_pos hm]
    clear HC RC hr;go_wp2;go_ret;exact⟨by rw[HK.out];rfl,B4⟩
   ·have HK:Hid (chkHead c=0):=by show _=_;rw[HC.out,if_pos (by decide),if_neg (by omega),if_pos hr,if_neg hn,if_neg hm]
    clear HC RC hr;go_wp2;go_ret;exact⟨by rw[HK.out];rfl,B4⟩
 ·have HK:Hid (chkHead c=1):=by show _=_;rw[HC.out,if_pos (by decide),if_neg (by omega),if_neg (by omega),hr]
  rw[hr,E1];clear HC RC hr;go_wp2;go_ret;exact⟨by rw[HK.out];rfl,B4⟩
 ·have HK:Hid (chkHead c=5):=by show _=_;rw[HC.out,if_pos (by decide),if_neg (by omega),if_neg (by omega),hr]
  rw[hr,E5];clear HC RC hr;go_wp2;go_ret;exact⟨by rw[HK.out];rfl,B4⟩
theorem chkOps_at (l:List OpM) (k:Nat) (hk:k<l.length) (h:∀j (hj:j<k),chkOp (l[j]'(by omega))=0):chkOps l=chkOps (l.drop k):=by
 induction k generalizing l with
 | zero=>simp
 | succ k ih=>
  cases l with
  | nil=>simp at hk
  | cons o r=>
   have h0:chkOp o=0:=h 0 (by omega);rw[chkOps,if_pos h0,List.drop_succ_cons];exact ih r (by simpa using hk) (fun j hj=>by simpa using h (j+1) (by omega))
theorem chkOps_none (l:List OpM) (h:∀o∈l,chkOp o=0):chkOps l=0:=by
 induction l with
 | nil=>rfl
 | cons o r ih=>rw[chkOps,if_pos (h o (by simp))];exact ih (fun x hx=>h x (by simp[hx]))
theorem errV_ne {e:Int} (h:e≠0):errV e=.iface 82 (.int .i64 e):=by unfold errV;rw[if_neg h]
theorem check_any (v:Value) (c:Chg) (w:World) (hv:IsChg w v c):
 Calls Tryz.prog 29 #[v] w fun e w'=>e=.returned (errV (chk c))∧Below w.heap.size w w':=by
 have hv0:=hv;obtain⟨ud,uo,l,rfl,i1,i2,i3,hd,ho,hl⟩:=hv;have HLN:Hid (l.length=c.ops.length):=by show _=_;rw[←hl,List.length_map]
 have BA:Below w.heap.size w (w.alloc (.cells #[.int .i64 c.actor,.int .i64 c.seq,.int .i64 c.start,ud,uo] 33)):=bAl w _;have hbx:(w.alloc (.cells #[.int .i64 c.actor,.int .i64 c.seq,.int .i64 c.start,ud,uo] 33)).heap[w.heap.size]?=some (.cells #[.int .i64 c.actor,.int .i64 c.seq,.int .i64 c.start,ud,uo] 33):=(MapKept.heap_alloc w _).1;have H:=checkHead_any _ c _ (hv0.below BA);obtain⟨ad,cd,rfl,-⟩:=id hd;obtain⟨ao,co,rfl,ho1,ho2,ho3',ho4'⟩:=id ho;have HO3:Hid (∀q∈l,IsPairs w q.2 q.1.preds∧OpNums q.1):=ho3';have HO4:Hid (l≠[]→∃b off,ao=some ⟨b,off,none⟩∧b<w.heap.size∧∀i (h:i<l.length) j,j<13→w.cell? ⟨b,off+i*13+j,none⟩=(opCells l[i].1 l[i].2)[j]?):=ho4';have HL0:Hid (l.map (·.1)=c.ops):=hl;clear ho3' ho4' ho hd hv0 hl;have HC:Hid (chk c=if chkHead c=0 then chkOps c.ops else chkHead c):=rfl;go_enter Tryz.func29,Tryz.ntmps29
 go_wp2_with fail;refine H.mono ?_;rintro e w1 ⟨rfl,b1⟩;have B1:Below w.heap.size w w1:=BA.trans (b1.mono BA.size);have X1:=heap_below hbx b1 lRf;clear H hbx BA b1;by_cases h0:chkHead c=0
 ·have HC2:Hid (chk c=chkOps c.ops):=by show _=_;rw[HC.out,if_pos h0]
  rw[h0];have E0:errV 0=.nilIface:=rfl;rw[E0];obtain⟨-,-,-,-,z4,-⟩:=cLs X1;clear HC h0;go_wp2_with fail;go_loopw [15] (fun i wr=>∃k:Nat,k≤l.length∧i=.int .i64 k∧(∀j (hj:j<k) (hj2:j<l.length),chkOp l[j].1=0)∧Below w.heap.size w wr) (fun i _=>l.length - (RowKit.intOf i).toNat)
  case atStart=>exact⟨0,Nat.zero_le _,rfl,fun j hj=>by omega,B1⟩
  case round=>
   clear B1 X1 z4;obtain⟨k,hk,rfl,hok,hbel⟩:=hrel;have hz:=hbel.size;by_cases hlt:k<l.length
   ·obtain⟨b,off,rfl,h4,h5⟩:=HO4.out (fun e=>by rw[e] at hlt;simp at hlt);have CL:∀j,j<13→wr.cell? ⟨b,off+k*13+j,none⟩=(opCells l[k].1 l[k].2)[j]?:=fun j hj=>by rw[hbel.cell (p:=⟨b,off+k*13+j,none⟩) h4];exact h5 k hlt j hj
    have hp:=(HO3.out l[k] (List.getElem_mem hlt)).1.below hbel;have hk2:k<c.ops.length:=by have:=HLN.out;omega
    have HL:Hid (c.ops[k]=l[k].1):=by
     show _=_;simp only[←HL0.out,List.getElem_map]
    have HD:Hid (chkOp l[k].1≠0→chkOps c.ops=chkOp l[k].1):=by
     intro hne;rw[chkOps_at c.ops k hk2 (fun j hj=>by
      have:=hok j hj (by omega);simp only[←HL0.out,List.getElem_map];exact this),List.drop_eq_getElem_cons hk2,chkOps,HL.out,if_neg hne]
    have HA:Hid (chkOp l[k].1=0→∀j (hj:j<k+1) (hj2:j<l.length),chkOp l[j].1=0):=by
     intro h j hj hj2;by_cases e:j=k
     ·subst e;exact h
     ·exact hok j (by omega) hj2
    obtain⟨⟨o,vp⟩,hq⟩:∃q,l[k]=q:=⟨_,rfl⟩
    rw[hq] at CL hp HD HA;dsimp only at CL hp HD HA;have g1:(k:Int)<l.length:=by omega
    have x0:=CL 0 (by decide);have x1:=CL 1 (by decide);have x2:=CL 2 (by decide);have x3:=CL 3 (by decide);have x4:=CL 4 (by decide);have x5:=CL 5 (by decide);have x6:=CL 6 (by decide);have x7:=CL 7 (by decide);have x8:=CL 8 (by decide);have x9:=CL 9 (by decide);have x10:=CL 10 (by decide);have x11:=CL 11 (by decide);have x12:=CL 12 (by decide);unfold opCells at x0 x1 x2 x3 x4 x5 x6 x7 x8 x9 x10 x11 x12;simp only[Nat.add_zero,List.getElem?_cons_zero,List.getElem?_cons_succ] at x0 x1 x2 x3 x4 x5 x6 x7 x8 x9 x10 x11 x12;have K:=fun W h=>checkOp_any o vp W h;unfold opVal opCells at K;have BB:Below w.heap.size w (wr.alloc (.cells (opA o o.ins vp) 62)):=hbel.alloc hz _;have hp1:=hp.below (bAl wr (.cells (opA o o.ins vp) 62));obtain⟨ap,cp,rfl,-⟩:=id hp;clear CL h5 hok hq hp HL HO4 HO3;go_wp2_with fail;refine(K _ hp1).mono ?_;rintro e w2 ⟨rfl,b2⟩;have B2:Below w.heap.size w w2:=BB.trans (b2.mono BB.size);clear BB b2 hp1 K x0 x1 x2 x3 x4 x5 x6 x7 x8 x9 x10 x11 x12;by_cases hne:chkOp o=0
    ·rw[hne];have E0:errV 0=.nilIface:=rfl;rw[E0];have HA2:Hid _:=HA.out hne;clear HA HD hne;go_wp2;go_roundw
     case rel=>exact⟨k+1,hlt,by go_num,HA2.out,B2⟩
     case measure=>simp[RowKit.intOf];omega
    ·rw[errV_ne hne];have HD2:Hid (errV (chk c)=.iface 82 (.int .i64 (chkOp o))):=by show _=_;rw[HC2.out,HD.out hne,errV_ne hne]
     clear HA HD hne;generalize chkOp o=z at *;go_wp2;go_ret;exact⟨by rw[HD2.out];rfl,B2⟩
   ·have HN:Hid (chk c=0):=by
     show _=_;rw[HC2.out];refine chkOps_none _ fun o ho=>?_;rw[←HL0.out] at ho;obtain⟨q,hq,rfl⟩:=List.mem_map.1 ho;obtain⟨j,hj,rfl⟩:=List.getElem_of_mem hq;exact hok j (by omega) hj
    have g1:¬(k:Int)<l.length:=by omega
    clear hok;go_wp2;go_ret;exact⟨by rw[HN.out];rfl,hbel⟩
 ·rw[errV_ne h0];have HN:Hid (errV (chk c)=.iface 82 (.int .i64 (chkHead c))):=by show _=_;rw[HC.out,if_neg h0,errV_ne h0]
  clear HC h0;generalize chkHead c=z at *;go_wp2;go_ret;exact⟨by rw[HN.out];rfl,B1⟩
end Go.Proofs.YtamhlgflbacjgaaGreat
namespace Go.Proofs.YtamhlgflbacjgaaGreat
open Go.RowKit Go.Maps
structure Kp (S:List Nat) (w w':World):Prop where
 os:w'.os=w.os
 tape:w'.tape=w.tape
 output:w'.output=w.output
 size:w.heap.size≤w'.heap.size
 block:∀k,k<w.heap.size→k∉S→w'.heap[k]?=w.heap[k]?
theorem Kp.refl (S:List Nat) (w:World):Kp S w w:=⟨rfl,rfl,rfl,lRf,fun _ _ _=>rfl⟩
theorem Kp.trans {S:List Nat} {w w1 w2:World} (h:Kp S w w1) (k:Kp S w1 w2):Kp S w w2:=
 ⟨k.os.trans h.os,k.tape.trans h.tape,k.output.trans h.output,Nat.le_trans h.size k.size,fun b hb hS=>(k.block b (Nat.lt_of_lt_of_le hb h.size) hS).trans (h.block b hb hS)⟩
theorem Kp.mono {S R:List Nat} {w w':World} (h:Kp S w w') (hS:∀b∈S,b∈R):Kp R w w':=
 ⟨h.os,h.tape,h.output,h.size,fun b hb hR=>h.block b hb (fun e=>hR (hS b e))⟩
theorem Kp.of {S:List Nat} {w w':World} (h:Below w.heap.size w w'):Kp S w w':=⟨h.os,h.tape,h.output,h.size,fun k hk _=>h.block k hk⟩
theorem Kp.below {S:List Nat} {B:Nat} {w w':World} (h:Kp S w w') (hB:∀b∈S,B≤b) (hz:B≤w.heap.size):Below B w w':=
 ⟨h.os,h.tape,h.output,h.size,fun k hk=>h.block k (by omega) (fun e=>by have:=hB k e;omega)⟩
theorem lt_of_heap {w:World} {b:Nat} {o:Obj} (hb:w.heap[b]?=some o):b<w.heap.size:=by
 rcases Nat.lt_or_ge b w.heap.size with h1 | h1
 ·exact h1
 ·rw[Array.getElem?_eq_none h1] at hb;cases hb
theorem Kp.heap {S:List Nat} {w w':World} {b:Nat} {o:Obj} (h:Kp S w w') (hb:w.heap[b]?=some o) (hS:b∉S):w'.heap[b]?=some o:=by
 rw[h.block b (lt_of_heap hb) hS];exact hb
theorem Kp.turned {w w':World} {b:Nat} (h:w.mapTurned w' b):Kp [b] w w':=
 have g:=h.grown
 ⟨g.os,g.tape,g.output,g.size,fun k hk hS=>g.block k hk (fun e=>hS (by rw[Option.some.inj e];simp))⟩
theorem MapL.kp {w w':World} {b:Nat} {L:List (Pr×Value)} {S:List Nat} (h:MapL w b L) (k:Kp S w w') (hb:b∉S):MapL w' b L:=by
 obtain⟨D,⟨es,clock,h0,h1⟩,h2⟩:=h.own;exact⟨⟨D,⟨es,clock,k.heap h0 hb,h1⟩,h2⟩,h.nd,h.r64⟩
structure BookAt (w:World) (g h q:Nat) (LH LW:List (Pr×Value)):Prop where
 box:w.heap[g]?=some (.cells #[.map (some h),.map (some q)] 77)
 has:MapL w h LH
 wait:MapL w q LW
 ne:h≠q
theorem BookAt.below {w w':World} {g h q:Nat} {LH LW:List (Pr×Value)} (B:BookAt w g h q LH LW) (b:Below w.heap.size w w'):BookAt w' g h q LH LW:=
 ⟨(Kp.of (S:=[]) b).heap B.box (by simp),B.has.below b,B.wait.below b,B.ne⟩
theorem zeroC (w:World):(zeroValue 33).run Tryz.prog w=.ok (.agg #[.int .i64 0,.int .i64 0,.int .i64 0,.slice none 0 0,.slice none 0 0]) w:=by kernel_rfl
theorem dnew_any (w:World):Calls Tryz.prog 6 #[] w fun e w'=>e=.returned (.pointer (some ⟨w.heap.size+2,0,none⟩))∧BookAt w' (w.heap.size+2) w.heap.size (w.heap.size+1) [] []∧Below w.heap.size w w':=by
 have hmm:=@run_makeMap Tryz.prog;have M0:=MapL.made w;have M1:=MapL.made (w.alloc (.map #[] 0));have b1:=(Below.refl (w.alloc (.map #[] 0)).heap.size (w.alloc (.map #[] 0))).alloc lRf (.map #[] 0);have b2:=(Below.refl ((w.alloc (.map #[] 0)).alloc (.map #[] 0)).heap.size ((w.alloc (.map #[] 0)).alloc (.map #[] 0))).alloc lRf (.cells #[.map (some w.heap.size),.map (some (w.heap.size+1))] 77);have e1:(w.alloc (.map #[] 0)).heap.size=w.heap.size+1:=by simp
 rw[e1] at M1;have HF:=hY4 ((M0.below b1).below b2) (M1.below b2) ((MapKept.heap_alloc ((w.alloc (.map #[] 0)).alloc (.map #[] 0)) (.cells #[.map (some w.heap.size),.map (some (w.heap.size+1))] 77)).1) (((bAl w (.map #[] 0)).alloc (by simp) (.map #[] 0)).alloc (by simp;omega) (.cells #[.map (some w.heap.size),.map (some (w.heap.size+1))] 77):_);clear M0 M1 b1 b2 e1;go_enter Tryz.func6,Tryz.ntmps6
 go_wp2;go_ret;exact⟨rfl,⟨by have:=HF.out.2.2.1;simpa using this,HF.out.1,HF.out.2.1,by omega⟩,HF.out.2.2.2⟩
def CV (v:Value):Prop:=∃(a s t:Int) (d:Option Addr) (n c:Nat) (o:Option Addr) (m e:Nat),v=.agg #[.int .i64 a,.int .i64 s,.int .i64 t,.slice d n c,.slice o m e]
abbrev zC:Value:=.agg #[.int .i64 0,.int .i64 0,.int .i64 0,.slice none 0 0,.slice none 0 0]
theorem cv_look {L:List (Pr×Value)} (h:∀q∈L,CV q.2) (r:Pr):CV ((lk L r).getD zC):=by
 cases hl:lk L r with
 | none=>exact⟨0,0,0,none,0,0,none,0,0,rfl⟩
 | some v=>exact h _ (lk_mem hl)
theorem has_any (g h q:Nat) (LH LW:List (Pr×Value)) (r:Pr) (w:World) (B:BookAt w g h q LH LW) (hr:R64 r) (hC:∀q∈LH,CV q.2):
 Calls Tryz.prog 74 #[.pointer (some ⟨g,0,none⟩),refV r] w fun e w'=>e=.returned (.bool (lk LH r).isSome)∧Below w.heap.size w w':=by
 have b0:=bAl w (.cells #[.int .i64 r.1,.int .i64 r.2] 45);have hz1:w.heap.size<(w.alloc (.cells #[.int .i64 r.1,.int .i64 r.2] 45)).heap.size:=by simp
 have B1:=B.below b0;have x0:=(MapKept.heap_alloc w (.cells #[.int .i64 r.1,.int .i64 r.2] 45)).1;have HA:=hY3 b0 B1 x0;clear B B1 b0 x0 hz1;go_enter Tryz.func74,Tryz.ntmps74
 go_wp2;obtain⟨b0,B1,x0⟩:=HA.out;clear HA;generalize w.alloc (.cells #[.int .i64 r.1,.int .i64 r.2] 45)=W at *;have c0:W.cell? ⟨g,0,none⟩=some (.map (some h)):=cLo B1.box 0;obtain⟨r0,r1,-⟩:=cLs x0;have hg:=lt_of_heap B1.box;have hx:=lt_of_heap x0;have hl:=MapL.look (w:=W.drew) ⟨B1.has.own,B1.has.nd,B1.has.r64⟩ Tryz.underlying75 (zeroC _) hr;have B2:=B1.has.below (bAl W (.cells #[.int .i64 0,.int .i64 0,.int .i64 0,.slice none 0 0,.slice none 0 0] 33));have hl2:=MapL.look (w:=(W.alloc (.cells #[.int .i64 0,.int .i64 0,.int .i64 0,.slice none 0 0,.slice none 0 0] 33)).drew) ⟨B2.own,B2.nd,B2.r64⟩ Tryz.underlying75 (zeroC _) hr;obtain⟨va,vs,vt,vd,vn,vc,vo,vm,ve,hv⟩:=cv_look hC r;rw[hv] at hl hl2;have HB:Hid (∀o,Below w.heap.size w (W.alloc o).drew):=fun o=>by
  have:=b0.alloc (show w.heap.size≤W.heap.size by omega) o;exact⟨this.os,this.tape,this.output,this.size,this.block⟩
 clear b0 B1 B2 x0 hv hC;obtain⟨ib,HI⟩:∃b:Bool,Hid (b=(lk LH r).isSome):=⟨_,rfl⟩
 rw[←HI.out] at hl hl2;go_region;all_goals
  go_wp2;go_ret;exact⟨by rw[←HI.out];rfl,HB.out _⟩
end Go.Proofs.YtamhlgflbacjgaaGreat
