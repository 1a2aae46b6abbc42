/-
  What is proved: as each theorem says.
  Conditions: as each theorem says.
-/
import Derived.Test.YtamhlgflbacjgaaGreatF00
import Derived.Test.YtamhlgflbacjgaaGreatF20
import Derived.Deep.RegionWith
import Derived.Test.YtamhlgflbacjgaaGreatF01
import Derived.Test.YtamhlgflbacjgaaGreatF03
import Derived.Test.YtamhlgflbacjgaaGreatF17
set_option maxRecDepth 100000
set_option maxHeartbeats 16000000
namespace Go.Proofs.YtamhlgflbacjgaaGreat
open Go.RowKit
theorem Gr.drew (B:Nat) (w:World):Gr B w w.drew:=⟨(Below.refl B w).drew,fun _ _ _ _ h=>h⟩
theorem rEncodeF_any (v:Value) (c:Chg) (w:World) (hv:IsChg w v c) (h:ChgFit c):
 Calls Tryz.prog 80 #[v] w fun e w'=>∃u,e=.returned u∧Row w.heap.size u (encC c) w'∧Below w.heap.size w w':=by
 obtain⟨ud,uo,l,rfl,-,-,-,hd,ho,hl⟩:=hv;have HLN:Hid (l.length=c.ops.length):=by show _=_;rw[←hl,List.length_map]
 have HL0:Hid (l.map (·.1)=c.ops):=hl;have BA:Below w.heap.size w (w.alloc (.cells #[.int .i64 c.actor,.int .i64 c.seq,.int .i64 c.start,ud,uo] 33)):=bAl w _;have hbx:(w.alloc (.cells #[.int .i64 c.actor,.int .i64 c.seq,.int .i64 c.start,ud,uo] 33)).heap[w.heap.size]?=some (.cells #[.int .i64 c.actor,.int .i64 c.seq,.int .i64 c.start,ud,uo] 33):=(MapKept.heap_alloc w _).1;obtain⟨ad,cd,rfl,-,hd2,-,hd4⟩:=hd;obtain⟨ao,co,rfl,-,ho2,ho3,ho4⟩:=ho;have HF:Hid (ChgFit c):=h;have HD4:Hid (c.deps≠[]→∃b off,ad=some ⟨b,off,none⟩∧b<w.heap.size∧∀i (h:i<c.deps.length),w.cell? ⟨b,off+i*2,none⟩=some (.int .i64 c.deps[i].1)∧w.cell? ⟨b,off+i*2+1,none⟩=some (.int .i64 c.deps[i].2)):=hd4;have HO3:Hid (∀q∈l,IsPairs w q.2 q.1.preds∧OpNums q.1):=ho3;have HO4:Hid (l≠[]→∃b off,ao=some ⟨b,off,none⟩∧b<w.heap.size∧∀i (h:i<l.length) j,j<13→w.cell? ⟨b,off+i*13+j,none⟩=(opCells l[i].1 l[i].2)[j]?):=ho4;have hdl:c.deps.length≤12:=HF.out.deps.1;have hol:l.length≤40:=by have:=HF.out.ops.1;have:=HLN.out;omega
 have nd:N63 (c.deps.length:Int):=by unfold N63;omega
 have no:N63 (l.length:Int):=by unfold N63;omega
 have n3:=HF.out.head;have HE:Hid (encC c=((encN [c.actor,c.seq,c.start,(c.deps.length:Int)]++encP c.deps)++encN [(l.length:Int)])++encOs c.ops):=by show _=_;rw[HLN.out];rfl
 clear hd4 ho3 ho4 hl h;have G1:Gr w.heap.size w (w.alloc (.cells #[.int .i64 c.actor,.int .i64 c.seq,.int .i64 c.start,.slice ad c.deps.length cd,.slice ao l.length co] 33)):=Gr.of BA lRf;have P1:=nums_new w.heap.size (.slice none 0 0) [] [c.actor,c.seq,c.start,(c.deps.length:Int)] _ (World.ownsRow_nil (w.alloc (.cells #[.int .i64 c.actor,.int .i64 c.seq,.int .i64 c.start,.slice ad c.deps.length cd,.slice ao l.length co] 33)) w.heap.size 5 1) G1.bel.size (nums4 n3.1 n3.2.1 n3.2.2 nd) (by simp) (by simp);have hz0:(w.alloc (.cells #[.int .i64 c.actor,.int .i64 c.seq,.int .i64 c.start,.slice ad c.deps.length cd,.slice ao l.length co] 33)).heap.size=w.heap.size+1:=by simp
 rw[hz0] at P1;have l1:=encN_len4 n3.1 n3.2.1 n3.2.2 nd;rw[List.nil_append] at P1;go_enter Tryz.func80,Tryz.ntmps80
 go_wp2_with fail;refine P1.mono ?_;rintro e w2 ⟨u2,rfl,R2,G2⟩;have X2:=G2.keep _ _ _ (by decide) hbx;have GB:=G1.trans G2;generalize encN [c.actor,c.seq,c.start,(c.deps.length:Int)]=Q1 at *;clear P1 G1 G2 hbx BA hz0;go_wp2_with fail;go_loopw [3,4] (fun x i wr=>∃k:Nat,k≤c.deps.length∧i=.int .i64 k∧Row w.heap.size x (Q1++encP (c.deps.take k)) wr∧Gr w.heap.size w wr∧wr.heap[w.heap.size]?=some (.cells #[.int .i64 c.actor,.int .i64 c.seq,.int .i64 c.start,.slice ad c.deps.length cd,.slice ao l.length co] 33)) (fun _ i _=>c.deps.length - (RowKit.intOf i).toNat)
 case atStart=>exact⟨0,Nat.zero_le _,rfl,by simpa [encP] using R2,GB,X2⟩
 case round=>
  clear R2 GB X2;obtain⟨k,hk,rfl,hh,hgr,hX⟩:=hrel;have hz:=hgr.bel.size;obtain⟨-,-,-,d3,-⟩:=cLs hX;by_cases hlt:k<c.deps.length
  ·obtain⟨b,off,rfl,h4,h5⟩:=HD4.out (fun e=>by rw[e] at hlt;simp at hlt);have x0:wr.cell? ⟨b,off+k*2,none⟩=some (.int .i64 c.deps[k].1):=by rw[hgr.bel.cell (p:=⟨b,off+k*2,none⟩) h4];exact(h5 k hlt).1
   have x1:wr.cell? ⟨b,off+k*2+1,none⟩=some (.int .i64 c.deps[k].2):=by rw[hgr.bel.cell (p:=⟨b,off+k*2+1,none⟩) h4];exact(h5 k hlt).2
   have hq:=HF.out.deps.2 c.deps[k] (List.getElem_mem hlt);have hb:=encP_len (c.deps.take k) (fun q h=>HF.out.deps.2 q (List.mem_of_mem_take h));have hb2:(c.deps.take k).length≤k:=List.length_take_le _ _;have hQ:(Q1++encP (c.deps.take k)).length≤300:=by rw[List.length_append];omega
   have HT:Hid (Q1++encP (c.deps.take (k+1))=(Q1++encP (c.deps.take k))++encN [c.deps[k].1,c.deps[k].2]):=by
    show _=_;rw[take_snoc c.deps k hlt,encP_append,List.append_assoc];simp[encP]
   obtain⟨⟨x,y⟩,hxy⟩:∃q,c.deps[k]=q:=⟨_,rfl⟩
   rw[hxy] at x0 x1 hq HT;dsimp only at x0 x1 hq HT;generalize Q1++encP (c.deps.take k)=Q at *;have P7:=fun W (hW:W.heap=wr.heap)=>nums_new w.heap.size _ Q [x,y] W (show Row w.heap.size _ Q W from by unfold Row World.ownsRow at hh ⊢;rw[hW];exact hh) (by rw[hW];exact hz) (nums2 hq.1 hq.2) (by omega) (by simp);have g1:(k:Int)<c.deps.length:=by omega
   have HX:Hid (wr.heap[w.heap.size]?=some (.cells #[.int .i64 c.actor,.int .i64 c.seq,.int .i64 c.start,.slice (some ⟨b,off,none⟩) c.deps.length cd,.slice ao l.length co] 33)):=hX;obtain⟨ax,cx,rfl⟩:=own_row_len hh;clear h5 hxy hb hb2 HD4 hX;go_wp2;go_region_with (go_at_call 116;refine(P7 wr.drew rfl).mono ?_;rintro e w8 ⟨u8,rfl,R8,G8⟩);all_goals
    have GN:=hgr.trans ((Gr.drew _ wr).trans G8);have HX8:Hid _:=G8.keep _ _ _ (by decide) HX.out;clear P7 x0 x1 d3 G8;go_wp2;go_roundw
    case rel=>exact⟨k+1,hlt,by go_num,by rw[HT.out];exact R8,GN,HX8.out⟩
    case measure=>simp[RowKit.intOf];omega
  ·obtain rfl:k=c.deps.length:=by omega
   rw[List.take_of_length_le lRf] at hh;have g1:¬(c.deps.length:Int)<c.deps.length:=by omega
   obtain⟨-,-,-,-,d4,-⟩:=cLs hX;have lb:=encP_len c.deps HF.out.deps.2;have hQ:(Q1++encP c.deps).length≤300:=by rw[List.length_append];omega
   generalize Q1++encP c.deps=Q2 at *;have P3:=nums_new w.heap.size _ Q2 [(l.length:Int)] wr hh hz (nums1 no) (by omega) (by simp);have l3:=encN_len1 no;obtain⟨ax,cx,rfl⟩:=own_row_len hh;clear HD4 lb;go_wp2_with fail;refine P3.mono ?_;rintro e w3 ⟨u3,rfl,R3,G3⟩;have X3:=G3.keep _ _ _ (by decide) hX;have GC:=hgr.trans G3;have q3:(Q2++encN [(l.length:Int)]).length≤310:=by rw[List.length_append];omega
   generalize Q2++encN [(l.length:Int)]=Q3 at *;clear P3 hh hgr hX d3 d4 G3;go_wp2_with fail;go_loopw [3,5] (fun x i wr=>∃k:Nat,k≤l.length∧i=.int .i64 k∧Row w.heap.size x (Q3++encOs (c.ops.take k)) wr∧Gr w.heap.size w wr∧wr.heap[w.heap.size]?=some (.cells #[.int .i64 c.actor,.int .i64 c.seq,.int .i64 c.start,.slice ad c.deps.length cd,.slice ao l.length co] 33)) (fun _ i _=>l.length - (RowKit.intOf i).toNat)
   case atStart=>exact⟨0,Nat.zero_le _,rfl,by simpa [encOs] using R3,GC,X3⟩
   case round=>
    clear R3 GC X3 hz hk;obtain⟨k,hk,rfl,hh,hgr,hX⟩:=hrel;have hz:=hgr.bel.size;obtain⟨-,-,-,-,d4,-⟩:=cLs hX;by_cases hltk:k<l.length
    ·obtain⟨b,off,rfl,h4,h5⟩:=HO4.out (fun e=>by rw[e] at hltk;simp at hltk);have CL:∀j,j<13→wr.cell? ⟨b,off+k*13+j,none⟩=(opCells l[k].1 l[k].2)[j]?:=fun j hj=>by rw[hgr.bel.cell (p:=⟨b,off+k*13+j,none⟩) h4];exact h5 k hltk j hj
     have hp:=(HO3.out l[k] (List.getElem_mem hltk)).1;have hk2:k<c.ops.length:=by have:=HLN.out;omega
     have HLk:Hid (c.ops[k]=l[k].1):=by
      show _=_;simp only[←HL0.out,List.getElem_map]
     have hfit:=HF.out.ops.2 c.ops[k] (List.getElem_mem hk2);have hb:=encOs_len (c.ops.take k) (fun q h=>HF.out.ops.2 q (List.mem_of_mem_take h));have hb2:(c.ops.take k).length≤k:=List.length_take_le _ _;have hQ:(Q3++encOs (c.ops.take k)).length≤21000:=by rw[List.length_append];omega
     have HT:Hid (Q3++encOs (c.ops.take (k+1))=(Q3++encOs (c.ops.take k))++encOp c.ops[k]):=by
      show _=_;rw[take_snoc c.ops k hk2,encOs_append,List.append_assoc];simp[encOs]
     rw[HLk.out] at HT hfit;obtain⟨⟨o,vp⟩,hq⟩:∃q,l[k]=q:=⟨_,rfl⟩
     rw[hq] at CL hp HT hfit;dsimp only at CL hp HT hfit;generalize Q3++encOs (c.ops.take k)=Q at *;have g1:(k:Int)<l.length:=by omega
     have x0:=CL 0 (by decide);have x1:=CL 1 (by decide);have x2:=CL 2 (by decide);have x3:=CL 3 (by decide);have x4:=CL 4 (by decide);have x5:=CL 5 (by decide);have x6:=CL 6 (by decide);have x7:=CL 7 (by decide);have x8:=CL 8 (by decide);have x9:=CL 9 (by decide);have x10:=CL 10 (by decide);have x11:=CL 11 (by decide);have x12:=CL 12 (by decide);unfold opCells at x0 x1 x2 x3 x4 x5 x6 x7 x8 x9 x10 x11 x12;simp only[Nat.add_zero,List.getElem?_cons_zero,List.getElem?_cons_succ] at x0 x1 x2 x3 x4 x5 x6 x7 x8 x9 x10 x11 x12;obtain⟨ap,cp,rfl,hp1,hp2,-,hp3⟩:=hp;have HP3:Hid (o.preds≠[]→∃b off,ap=some ⟨b,off,none⟩∧b<w.heap.size∧∀i (h:i<o.preds.length),w.cell? ⟨b,off+i*2,none⟩=some (.int .i64 o.preds[i].1)∧w.cell? ⟨b,off+i*2+1,none⟩=some (.int .i64 o.preds[i].2)):=hp3;have hpl12:=hfit.preds.1;have npl:N63 (o.preds.length:Int):=by unfold N63;omega
     have nks:N63 (o.key.size:Int):=by have:=hfit.key;unfold N63;omega
     have HOE:Hid (Q++encOp o=((((((((Q++encN [o.kind,o.obj.1,o.obj.2,(o.key.size:Int)])++o.key.data.toList)++encN [o.elem.1,o.elem.2,if o.ins then 1 else 0,o.val.k])++put (zig o.val.n))++encN [(o.val.t.size:Int)])++o.val.t.data.toList)++encN [(o.preds.length:Int)])++encP o.preds)):=by
      show _=_;unfold encOp encT encB encV encT;simp[encN]
     have GX:=Gr.alloc w.heap.size wr (.cells (opCells o (.slice ap o.preds.length cp)).toArray 62) hz;have hbx:=op_box (w:=wr) (o:=o) (vp:=.slice ap o.preds.length cp);have hzz:(wr.alloc (.cells (opCells o (.slice ap o.preds.length cp)).toArray 62)).heap.size=wr.heap.size+1:=by simp
     have P1:=nums_new w.heap.size _ Q [o.kind,o.obj.1,o.obj.2,(o.key.size:Int)] _ (hh.alloc (.cells (opCells o (.slice ap o.preds.length cp)).toArray 62)) (Nat.le_trans hz GX.bel.size) (nums4 hfit.kind hfit.obj.1 hfit.obj.2 nks) (by omega) (by simp);rw[hzz] at P1;have l1':=encN_len4 hfit.kind hfit.obj.1 hfit.obj.2 nks;have HY:Hid (∀W,Gr w.heap.size w W→True):=fun _ _=>trivial;have HYk:Hid (∀W,Gr w.heap.size wr W→W.heap[w.heap.size]?=some (.cells #[.int .i64 c.actor,.int .i64 c.seq,.int .i64 c.start,.slice ad c.deps.length cd,.slice (some ⟨b,off,none⟩) l.length co] 33)):=fun W hW=>hW.keep _ _ _ (by decide) hX;clear CL h5 hq HO4 HO3 HLk hb hb2 hp3 hX HY;unfold opCells at P1;go_wp2_with fail;refine P1.mono ?_;rintro e w4 ⟨u4,rfl,R4,G4⟩;have X4:=G4.keep _ _ _ (by decide) hbx;have GB:=GX.trans G4;have hz4:=Nat.le_trans hz GB.bel.size;have c3:=(OpBox.of X4).c3;have q1:(Q++encN [o.kind,o.obj.1,o.obj.2,(o.key.size:Int)]).length≤21040:=by rw[List.length_append];omega
     generalize Q++encN [o.kind,o.obj.1,o.obj.2,(o.key.size:Int)]=Qa at *;have hk20:=hfit.key;clear P1 G4 GX hbx hh x0 x1 x2 x3 x4 x5 x6 x7 x8 x9 x10 x11 x12 hzz d4;go_wp2_with (first | (at_builtin;refine app_text rfl _ _ rfl w.heap.size _ Qa rfl R4 o.key rfl (by omega) hz4 ?_));intro u5 w5 R5 G5;have X5:=G5.keep _ _ _ (by decide) X4;have GC:=GB.trans G5;have hz5:=Nat.le_trans hz GC.bel.size;have ek:o.key.data.toList.length=o.key.size:=by rw[Array.length_toList];rfl
     have q2:(Qa++o.key.data.toList).length≤21060:=by rw[List.length_append];omega
     generalize Qa++o.key.data.toList=Q2 at *;clear c3 R4 X4 G5 GB ek;have c4:=(OpBox.of X5).c4;have c5:=(OpBox.of X5).c5;have c6:=(OpBox.of X5).c6;have c7:=(OpBox.of X5).c7;cases hI:o.ins with
     | false=>
      rw[hI] at HOE c6;simp only[Bool.false_eq_true,if_false] at HOE;clear hI;have P4:=nums_new w.heap.size _ Q2 [o.elem.1,o.elem.2,(0:Int),o.val.k] w5 R5 hz5 (nums4 hfit.elem.1 hfit.elem.2 (by unfold N63;omega) hfit.vk) (by omega) (by simp);have l4:=encN_len4 hfit.elem.1 hfit.elem.2 (show N63 (0:Int) by unfold N63;omega) hfit.vk;go_wp2_with fail;refine P4.mono ?_;rintro e w6 ⟨u6,rfl,R6,G6⟩;have X6:=G6.keep _ _ _ (by decide) X5;have GD:=GC.trans G6;have hz6:=Nat.le_trans hz GD.bel.size;have y8:=(OpBox.of X6).c8;have q3:(Q2++encN [o.elem.1,o.elem.2,(0:Int),o.val.k]).length≤21200:=by rw[List.length_append];omega
      generalize Q2++encN [o.elem.1,o.elem.2,(0:Int),o.val.k]=Q3 at *;clear P4 R5 G6 X5 GC c4 c5 c6 c7;go_wp2_with fail;refine(rPutSigned_any o.val.n w6 hfit.vn.1 hfit.vn.2).mono ?_;rintro e w7 ⟨u7,rfl,R7,b7⟩;have H7:Row w.heap.size _ Q3 w7:=own_below R6 b7 lRf;have X7:=heap_below X6 b7 lRf;have GE:=GD.trans (Gr.of b7 hz6);have hz7:=Nat.le_trans hz GE.bel.size;have l5:=put_len10 (zig_lt hfit.vn.1 hfit.vn.2);clear y8 R6 X6 b7 GD;go_wp2_with (first | (at_builtin;refine app_row rfl _ _ rfl w.heap.size _ Q3 rfl H7 _ _ (put (zig o.val.n)) rfl R7 (put_ne _) (by omega) hz7 ?_));intro u8 w8 R8 G8;have X8:=G8.keep _ _ _ (by decide) X7;have GF:=GE.trans G8;have hz8:=Nat.le_trans hz GF.bel.size;have z9:=(OpBox.of X8).c9;have q4:(Q3++put (zig o.val.n)).length≤21210:=by rw[List.length_append];omega
      generalize Q3++put (zig o.val.n)=Q4 at *;have nt:N63 (o.val.t.size:Int):=by have:=hfit.vt;unfold N63;omega
      have P6:=nums_new w.heap.size _ Q4 [(o.val.t.size:Int)] w8 R8 hz8 (nums1 nt) (by omega) (by simp);have l6:=encN_len1 nt;clear H7 R7 X7 GE G8;go_wp2_with fail;refine P6.mono ?_;rintro e w9 ⟨u9,rfl,R9,G9⟩;have X9:=G9.keep _ _ _ (by decide) X8;have GG:=GF.trans G9;have hz9:=Nat.le_trans hz GG.bel.size;have v9:=(OpBox.of X9).c9;have q5:(Q4++encN [(o.val.t.size:Int)]).length≤21220:=by rw[List.length_append];omega
      generalize Q4++encN [(o.val.t.size:Int)]=Q5 at *;have ht60:=hfit.vt;clear P6 R8 X8 GF G9 z9;go_wp2_with (first | (at_builtin;refine app_text rfl _ _ rfl w.heap.size _ Q5 rfl R9 o.val.t rfl (by omega) hz9 ?_));intro u10 w10 R10 G10;have X10:=G10.keep _ _ _ (by decide) X9;have GH:=GG.trans G10;have hz10:=Nat.le_trans hz GH.bel.size;have v12:=(OpBox.of X10).c12;have et:o.val.t.data.toList.length=o.val.t.size:=by rw[Array.length_toList];rfl
      have q6:(Q5++o.val.t.data.toList).length≤21280:=by rw[List.length_append];omega
      generalize Q5++o.val.t.data.toList=Q6 at *;have P7:=nums_new w.heap.size _ Q6 [(o.preds.length:Int)] w10 R10 hz10 (nums1 npl) (by omega) (by simp);have l7:=encN_len1 npl;clear R9 X9 GG G10 v9;go_wp2_with fail;refine P7.mono ?_;rintro e w11 ⟨u11,rfl,R11,G11⟩;have X11:=G11.keep _ _ _ (by decide) X10;have GI:=GH.trans G11;have q7:(Q6++encN [(o.preds.length:Int)]).length≤21290:=by rw[List.length_append];omega
      generalize Q6++encN [(o.preds.length:Int)]=Q7 at *;clear P7 R10 X10 GH G11 v12 et;go_wp2_with fail;generalize wr.heap.size=bx at *;go_loopw [3,8] (fun x i wr2=>∃j:Nat,j≤o.preds.length∧i=.int .i64 j∧Row w.heap.size x (Q7++encP (o.preds.take j)) wr2∧Gr w.heap.size w wr2∧wr2.heap[bx]?=some (.cells (opCells o (.slice ap o.preds.length cp)).toArray 62)∧wr2.heap[w.heap.size]?=some (.cells #[.int .i64 c.actor,.int .i64 c.seq,.int .i64 c.start,.slice ad c.deps.length cd,.slice (some ⟨b,off,none⟩) l.length co] 33)) (fun _ i _=>o.preds.length - (RowKit.intOf i).toNat)
      case atStart=>exact⟨0,Nat.zero_le _,rfl,by simpa [encP] using R11,hgr.trans GI,X11,HYk.out _ GI⟩
      case round=>
       clear R11 GI X11 hgr HYk hz hz6 hz7 hz8 hz9 hz10;obtain⟨j,hj,rfl,hh,hgr,hX,hY⟩:=hrel;have hz:=hgr.bel.size;have e12:=(OpBox.of hX).c12;by_cases hlt:j<o.preds.length
       ·obtain⟨b2,off2,rfl,h4,h5⟩:=HP3.out (fun e=>by rw[e] at hlt;simp at hlt);have x0:wr.cell? ⟨b2,off2+j*2,none⟩=some (.int .i64 o.preds[j].1):=by rw[hgr.bel.cell (p:=⟨b2,off2+j*2,none⟩) h4];exact(h5 j hlt).1
        have x1:wr.cell? ⟨b2,off2+j*2+1,none⟩=some (.int .i64 o.preds[j].2):=by rw[hgr.bel.cell (p:=⟨b2,off2+j*2+1,none⟩) h4];exact(h5 j hlt).2
        have hq:=hfit.preds.2 o.preds[j] (List.getElem_mem hlt);have hb:=encP_len (o.preds.take j) (fun q h=>hfit.preds.2 q (List.mem_of_mem_take h));have hb2:(o.preds.take j).length≤j:=List.length_take_le _ _;have h12:=hfit.preds.1;have hQ:(Q7++encP (o.preds.take j)).length≤21600:=by rw[List.length_append];omega
        have HT2:Hid (Q7++encP (o.preds.take (j+1))=(Q7++encP (o.preds.take j))++encN [o.preds[j].1,o.preds[j].2]):=by
         show _=_;rw[take_snoc o.preds j hlt,encP_append,List.append_assoc];simp[encP]
        obtain⟨⟨x,y⟩,hxy⟩:∃q,o.preds[j]=q:=⟨_,rfl⟩
        rw[hxy] at x0 x1 hq HT2;dsimp only at x0 x1 hq HT2;generalize Q7++encP (o.preds.take j)=Q8 at *;have P9:=fun W (hW:W.heap=wr.heap)=>nums_new w.heap.size _ Q8 [x,y] W (show Row w.heap.size _ Q8 W from by unfold Row World.ownsRow at hh ⊢;rw[hW];exact hh) (by rw[hW];exact hz) (nums2 hq.1 hq.2) (by omega) (by simp);have g1:(j:Int)<o.preds.length:=by omega
        have HX:Hid _:=hX;have HYY:Hid _:=hY;obtain⟨ax,cx,rfl⟩:=own_row_len hh;clear h5 hxy hb hb2 HP3 hX hY;go_wp2;go_region_with (go_at_call 116;refine(P9 wr.drew rfl).mono ?_;rintro e w12 ⟨u12,rfl,R12,G12⟩);all_goals
         have GN:=hgr.trans ((Gr.drew _ wr).trans G12);have HN1:Hid _:=G12.keep _ _ _ (by decide) HX.out;have HN2:Hid _:=G12.keep _ _ _ (by decide) HYY.out;clear P9 x0 x1 e12 G12;go_wp2;go_roundw
         case rel=>exact⟨j+1,hlt,by go_num,by rw[HT2.out];exact R12,GN,HN1.out,HN2.out⟩
         case measure=>simp[RowKit.intOf];omega
       ·obtain rfl:j=o.preds.length:=by omega
        rw[List.take_of_length_le lRf] at hh;have g1:¬(o.preds.length:Int)<o.preds.length:=by omega
        have HYY:Hid _:=hY;have HHH:Hid _:=hh;clear hX hY;go_wp2;go_roundw
        case rel=>exact⟨k+1,hltk,by go_num,by rw[HT.out,HOE.out];exact HHH.out,hgr,HYY.out⟩
        case measure=>simp[RowKit.intOf];omega
     | true=>
      rw[hI] at HOE c6;simp only[if_true] at HOE;clear hI;have P4:=nums_new w.heap.size _ Q2 [o.elem.1,o.elem.2,(1:Int),o.val.k] w5 R5 hz5 (nums4 hfit.elem.1 hfit.elem.2 (by unfold N63;omega) hfit.vk) (by omega) (by simp);have l4:=encN_len4 hfit.elem.1 hfit.elem.2 (show N63 (1:Int) by unfold N63;omega) hfit.vk;go_wp2_with fail;refine P4.mono ?_;rintro e w6 ⟨u6,rfl,R6,G6⟩;have X6:=G6.keep _ _ _ (by decide) X5;have GD:=GC.trans G6;have hz6:=Nat.le_trans hz GD.bel.size;have y8:=(OpBox.of X6).c8;have q3:(Q2++encN [o.elem.1,o.elem.2,(1:Int),o.val.k]).length≤21200:=by rw[List.length_append];omega
      generalize Q2++encN [o.elem.1,o.elem.2,(1:Int),o.val.k]=Q3 at *;clear P4 R5 G6 X5 GC c4 c5 c6 c7;go_wp2_with fail;refine(rPutSigned_any o.val.n w6 hfit.vn.1 hfit.vn.2).mono ?_;rintro e w7 ⟨u7,rfl,R7,b7⟩;have H7:Row w.heap.size _ Q3 w7:=own_below R6 b7 lRf;have X7:=heap_below X6 b7 lRf;have GE:=GD.trans (Gr.of b7 hz6);have hz7:=Nat.le_trans hz GE.bel.size;have l5:=put_len10 (zig_lt hfit.vn.1 hfit.vn.2);clear y8 R6 X6 b7 GD;go_wp2_with (first | (at_builtin;refine app_row rfl _ _ rfl w.heap.size _ Q3 rfl H7 _ _ (put (zig o.val.n)) rfl R7 (put_ne _) (by omega) hz7 ?_));intro u8 w8 R8 G8;have X8:=G8.keep _ _ _ (by decide) X7;have GF:=GE.trans G8;have hz8:=Nat.le_trans hz GF.bel.size;have z9:=(OpBox.of X8).c9;have q4:(Q3++put (zig o.val.n)).length≤21210:=by rw[List.length_append];omega
      generalize Q3++put (zig o.val.n)=Q4 at *;have nt:N63 (o.val.t.size:Int):=by have:=hfit.vt;unfold N63;omega
      have P6:=nums_new w.heap.size _ Q4 [(o.val.t.size:Int)] w8 R8 hz8 (nums1 nt) (by omega) (by simp);have l6:=encN_len1 nt;clear H7 R7 X7 GE G8;go_wp2_with fail;refine P6.mono ?_;rintro e w9 ⟨u9,rfl,R9,G9⟩;have X9:=G9.keep _ _ _ (by decide) X8;have GG:=GF.trans G9;have hz9:=Nat.le_trans hz GG.bel.size;have v9:=(OpBox.of X9).c9;have q5:(Q4++encN [(o.val.t.size:Int)]).length≤21220:=by rw[List.length_append];omega
      generalize Q4++encN [(o.val.t.size:Int)]=Q5 at *;have ht60:=hfit.vt;clear P6 R8 X8 GF G9 z9;go_wp2_with (first | (at_builtin;refine app_text rfl _ _ rfl w.heap.size _ Q5 rfl R9 o.val.t rfl (by omega) hz9 ?_));intro u10 w10 R10 G10;have X10:=G10.keep _ _ _ (by decide) X9;have GH:=GG.trans G10;have hz10:=Nat.le_trans hz GH.bel.size;have v12:=(OpBox.of X10).c12;have et:o.val.t.data.toList.length=o.val.t.size:=by rw[Array.length_toList];rfl
      have q6:(Q5++o.val.t.data.toList).length≤21280:=by rw[List.length_append];omega
      generalize Q5++o.val.t.data.toList=Q6 at *;have P7:=nums_new w.heap.size _ Q6 [(o.preds.length:Int)] w10 R10 hz10 (nums1 npl) (by omega) (by simp);have l7:=encN_len1 npl;clear R9 X9 GG G10 v9;go_wp2_with fail;refine P7.mono ?_;rintro e w11 ⟨u11,rfl,R11,G11⟩;have X11:=G11.keep _ _ _ (by decide) X10;have GI:=GH.trans G11;have q7:(Q6++encN [(o.preds.length:Int)]).length≤21290:=by rw[List.length_append];omega
      generalize Q6++encN [(o.preds.length:Int)]=Q7 at *;clear P7 R10 X10 GH G11 v12 et;go_wp2_with fail;generalize wr.heap.size=bx at *;go_loopw [3,8] (fun x i wr2=>∃j:Nat,j≤o.preds.length∧i=.int .i64 j∧Row w.heap.size x (Q7++encP (o.preds.take j)) wr2∧Gr w.heap.size w wr2∧wr2.heap[bx]?=some (.cells (opCells o (.slice ap o.preds.length cp)).toArray 62)∧wr2.heap[w.heap.size]?=some (.cells #[.int .i64 c.actor,.int .i64 c.seq,.int .i64 c.start,.slice ad c.deps.length cd,.slice (some ⟨b,off,none⟩) l.length co] 33)) (fun _ i _=>o.preds.length - (RowKit.intOf i).toNat)
      case atStart=>exact⟨0,Nat.zero_le _,rfl,by simpa [encP] using R11,hgr.trans GI,X11,HYk.out _ GI⟩
      case round=>
       clear R11 GI X11 hgr HYk hz hz6 hz7 hz8 hz9 hz10;obtain⟨j,hj,rfl,hh,hgr,hX,hY⟩:=hrel;have hz:=hgr.bel.size;have e12:=(OpBox.of hX).c12;by_cases hlt:j<o.preds.length
       ·obtain⟨b2,off2,rfl,h4,h5⟩:=HP3.out (fun e=>by rw[e] at hlt;simp at hlt);have x0:wr.cell? ⟨b2,off2+j*2,none⟩=some (.int .i64 o.preds[j].1):=by rw[hgr.bel.cell (p:=⟨b2,off2+j*2,none⟩) h4];exact(h5 j hlt).1
        have x1:wr.cell? ⟨b2,off2+j*2+1,none⟩=some (.int .i64 o.preds[j].2):=by rw[hgr.bel.cell (p:=⟨b2,off2+j*2+1,none⟩) h4];exact(h5 j hlt).2
        have hq:=hfit.preds.2 o.preds[j] (List.getElem_mem hlt);have hb:=encP_len (o.preds.take j) (fun q h=>hfit.preds.2 q (List.mem_of_mem_take h));have hb2:(o.preds.take j).length≤j:=List.length_take_le _ _;have h12:=hfit.preds.1;have hQ:(Q7++encP (o.preds.take j)).length≤21600:=by rw[List.length_append];omega
        have HT2:Hid (Q7++encP (o.preds.take (j+1))=(Q7++encP (o.preds.take j))++encN [o.preds[j].1,o.preds[j].2]):=by
         show _=_;rw[take_snoc o.preds j hlt,encP_append,List.append_assoc];simp[encP]
        obtain⟨⟨x,y⟩,hxy⟩:∃q,o.preds[j]=q:=⟨_,rfl⟩
        rw[hxy] at x0 x1 hq HT2;dsimp only at x0 x1 hq HT2;generalize Q7++encP (o.preds.take j)=Q8 at *;have P9:=fun W (hW:W.heap=wr.heap)=>nums_new w.heap.size _ Q8 [x,y] W (show Row w.heap.size _ Q8 W from by unfold Row World.ownsRow at hh ⊢;rw[hW];exact hh) (by rw[hW];exact hz) (nums2 hq.1 hq.2) (by omega) (by simp);have g1:(j:Int)<o.preds.length:=by omega
        have HX:Hid _:=hX;have HYY:Hid _:=hY;obtain⟨ax,cx,rfl⟩:=own_row_len hh;clear h5 hxy hb hb2 HP3 hX hY;go_wp2;go_region_with (go_at_call 116;refine(P9 wr.drew rfl).mono ?_;rintro e w12 ⟨u12,rfl,R12,G12⟩);all_goals
         have GN:=hgr.trans ((Gr.drew _ wr).trans G12);have HN1:Hid _:=G12.keep _ _ _ (by decide) HX.out;have HN2:Hid _:=G12.keep _ _ _ (by decide) HYY.out;clear P9 x0 x1 e12 G12;go_wp2;go_roundw
         case rel=>exact⟨j+1,hlt,by go_num,by rw[HT2.out];exact R12,GN,HN1.out,HN2.out⟩
         case measure=>simp[RowKit.intOf];omega
       ·obtain rfl:j=o.preds.length:=by omega
        rw[List.take_of_length_le lRf] at hh;have g1:¬(o.preds.length:Int)<o.preds.length:=by omega
        have HYY:Hid _:=hY;have HHH:Hid _:=hh;clear hX hY;go_wp2;go_roundw
        case rel=>exact⟨k+1,hltk,by go_num,by rw[HT.out,HOE.out];exact HHH.out,hgr,HYY.out⟩
        case measure=>simp[RowKit.intOf];omega
    ·obtain rfl:k=l.length:=by omega
     rw[HLN.out,List.take_of_length_le lRf] at hh;have g1:¬(l.length:Int)<l.length:=by omega
     clear hX;go_wp2;go_ret;exact⟨_,rfl,by rw[HE.out];exact hh,hgr.bel⟩
theorem IsChg.fit {v:Value} {c:Chg} {w:World} (hv:IsChg w v c) (h:chk c=0):ChgFit c:=by
 obtain⟨ud,uo,l,rfl,-,-,-,hd,ho,hl⟩:=hv;obtain⟨ao,co,rfl,-,ho2,ho3,ho4⟩:=ho;exact chg_fit h (fun o ho=>by
  rw[←hl] at ho;obtain⟨q,hq,rfl⟩:=List.mem_map.1 ho;exact(ho3 q hq).2.2.2.2.2.1)
theorem rEncode_any (v:Value) (c:Chg) (w:World) (hv:IsChg w v c) (h:chk c=0):
 Calls Tryz.prog 80 #[v] w fun e w'=>∃u,e=.returned u∧Row w.heap.size u (encC c) w'∧Below w.heap.size w w':=rEncodeF_any v c w hv (hv.fit h)
def Shr (s s':St):Prop:=∀r,s'=some r→∃l k,s=some l∧k≤l.length∧r=l.drop k
theorem Shr.refl (s:St):Shr s s:=fun r h=>⟨r,0,h,Nat.zero_le _,by simp⟩
theorem Shr.trans {s s1 s2:St} (h:Shr s s1) (k:Shr s1 s2):Shr s s2:=by
 intro r hr;obtain⟨l1,k1,h1,h2,rfl⟩:=k r hr;obtain⟨l,k0,h3,h4,rfl⟩:=h l1 h1;rw[List.length_drop] at h2;exact⟨l,k0+k1,h3,by omega,by rw[List.drop_drop]⟩
theorem Shr.some {s s':St} (h:Shr s s') (hs:s'≠none):s≠none:=by
 intro e;cases hs':s' with
 | none=>exact hs hs'
 | some r=>obtain⟨l,_,h1,_⟩:=h r hs';rw[e] at h1;cases h1

theorem Off.drew {g:Nat} {w w':World} (h:Off g w w'):Off g w w'.drew:=⟨h.os,h.tape,h.output,h.size,h.block⟩
theorem rRef_any (a s:Int) (w:World):Calls Tryz.prog 93 #[.agg #[.int .i64 a,.int .i64 s]] w fun e w'=>e=.returned (.bool (refB (a,s)))∧Below w.heap.size w w':=by
 unfold refB fromB;dsimp only;by_cases h1:1≤a
 ·by_cases h2:a≤99
  ·by_cases h3:1≤s
   ·by_cases h4:s≤1000000
    ·go_enter Tryz.func93,Tryz.ntmps93
     go_wp2;go_ret;exact⟨by simp[h1,h2,h3,h4],bAl _ _⟩
    ·go_enter Tryz.func93,Tryz.ntmps93
     go_wp2;go_ret;exact⟨by simp[h4],bAl _ _⟩
   ·go_enter Tryz.func93,Tryz.ntmps93
    go_wp2;go_ret;exact⟨by simp;omega,bAl _ _⟩
  ·go_enter Tryz.func93,Tryz.ntmps93
   go_wp2;go_ret;exact⟨by simp;omega,bAl _ _⟩
 ·go_enter Tryz.func93,Tryz.ntmps93
  go_wp2;go_ret;exact⟨by simp;omega,bAl _ _⟩
theorem rObject_any (v:V) (w:World):Calls Tryz.prog 56 #[v.val] w fun e w'=>e=.returned (.bool (decide (v.k=5∨v.k=6)))∧Below w.heap.size w w':=by
 obtain⟨k,n,t,o,a⟩:=v;unfold V.val;dsimp only;by_cases h5:k=5
 ·subst h5;go_enter Tryz.func56,Tryz.ntmps56
  go_wp2;go_ret;exact⟨by simp,bAl _ _⟩
 ·have q5:(k==5)=false:=by simpa using h5
  go_enter Tryz.func56,Tryz.ntmps56
  go_wp2;go_ret;exact⟨by by_cases h6:k=6 <;> simp[h5,h6],bAl _ _⟩
theorem rReal_any (n a:Int) (w:World):Calls Tryz.prog 129 #[.agg #[.int .i64 n,.int .i64 a]] w fun e w'=>e=.returned (.bool (!rootB (n,a)&&idOkB n a))∧Below w.heap.size w w':=by
 by_cases h:Real n a
 ·have e:(!rootB (n,a)&&idOkB n a)=true:=by
   rw[(idOk_iff n a).2 (Or.inr h),Bool.and_true,rootB];have:=h.1;simp;omega
  rw[e];exact rReal_yes n a w h
 ·have e:(!rootB (n,a)&&idOkB n a)=false:=by
   by_cases hr:n=0∧a=0
   ·simp[rootB,hr]
   ·rw[idOk_no n a (fun k=>k.elim hr h),Bool.and_false]
  rw[e];exact rReal_no n a w h
theorem refsC_zero (l:List Pr):refsC l=0↔(∀i (h:i<l.length),refB l[i]=true)∧∀i (h:i+1<l.length),l[i].1<l[i+1].1:=by
 unfold refsC;by_cases ha:l.all refB=true
 ·rw[if_pos ha];have h1:∀i (h:i<l.length),refB l[i]=true:=fun i h=>List.all_eq_true.1 ha _ (List.getElem_mem h);by_cases hc:chainB (fun a b=>decide (a.1<b.1)) l=true
  ·rw[if_pos hc];have h2:=(chainB_iff _ _).1 hc;exact⟨fun _=>⟨h1,fun i h=>by simpa using h2 i h⟩,fun _=>rfl⟩
  ·rw[if_neg hc];refine⟨fun e=>(by cases e),fun q=>absurd ?_ hc⟩;obtain⟨-,h2⟩:=q;rw[chainB_iff];exact fun i h=>by simpa using h2 i h
 ·rw[if_neg ha];refine⟨fun e=>(by cases e),fun q=>absurd ?_ ha⟩;obtain⟨h1,-⟩:=q;rw[List.all_eq_true];intro q hq;obtain⟨i,hi,rfl⟩:=List.getElem_of_mem hq;exact h1 i hi
theorem rClock_any (v:Value) (l:List Pr) (w:World) (hv:IsPairs w v l):
 Calls Tryz.prog 94 #[v] w fun e w'=>(∃x,e=.returned (.int .i64 x)∧(x=0↔refsC l=0))∧Below w.heap.size w w':=by
 obtain⟨a,cap,rfl,h1,h2,hr,h3⟩:=hv;have HZ:Hid (refsC l=0↔(∀i (h:i<l.length),refB l[i]=true)∧∀i (h:i+1<l.length),l[i].1<l[i+1].1):=refsC_zero l;go_enter Tryz.func94,Tryz.ntmps94
 go_wp2_with fail;go_loopw [3] (fun i w2=>∃k:Nat,k≤l.length∧i=.int .i64 k∧(∀j (h:j<l.length),j<k→refB l[j]=true)∧(∀j (h:j+1<l.length),j+1<k→l[j].1<l[j+1].1)∧Below w.heap.size w w2) (fun i _=>l.length - (RowKit.intOf i).toNat)
 case atStart=>exact⟨0,Nat.zero_le _,rfl,fun j _ h=>by omega,fun j _ h=>by omega,Below.refl _ _⟩
 case round=>
  obtain⟨k,hk,rfl,hok,hch,hbel⟩:=hrel;have hz:=hbel.size;by_cases hlt:k<l.length
  ·obtain⟨b,off,rfl,h4,h5⟩:=h3 (fun e=>by rw[e] at hlt;simp at hlt);have x0:wr.cell? ⟨b,off+k*2,none⟩=some (.int .i64 l[k].1):=by rw[hbel.cell (p:=⟨b,off+k*2,none⟩) h4];exact(h5 k hlt).1
   have x1:wr.cell? ⟨b,off+k*2+1,none⟩=some (.int .i64 l[k].2):=by rw[hbel.cell (p:=⟨b,off+k*2+1,none⟩) h4];exact(h5 k hlt).2
   have g1:(k:Int)<l.length:=by omega
   have HH:Hid (refB l[k]=true→∀j (h:j<l.length),j<k+1→refB l[j]=true):=by
    intro e j h hj;by_cases e2:j=k
    ·subst e2;exact e
    ·exact hok j h (by omega)
   have HB:Hid (refB l[k]=false→¬refsC l=0):=by
    intro e e2;have:=(HZ.out.1 e2).1 k hlt;rw[e] at this;cases this
   have HCh:Hid (∀j (h:j+1<l.length),j+1<k→l[j].1<l[j+1].1):=hch;have RR:=fun W=>rRef_any l[k].1 l[k].2 W;have HE:Hid ((l[k].1,l[k].2)=l[k]):=rfl;rw[HE.out] at RR;clear hok hch;cases hR:refB l[k] with
   | false=>
    have HB2:Hid _:=HB.out hR;simp only[hR] at RR;clear HB HH h5 h3 HCh HE;generalize l[k]=y at *;go_wp2_with fail;refine(RR _).mono ?_;rintro e w1 ⟨rfl,b1⟩;go_wp2;go_ret;exact⟨⟨1,rfl,by simpa using HB2.out⟩,hbel.trans (b1.mono hz)⟩
   | true=>
    have HH2:Hid _:=HH.out hR;simp only[hR] at RR;clear HB HH;by_cases hk0:k=0
    ·subst hk0;have HC2:Hid (∀j (h:j+1<l.length),j+1<0+1→l[j].1<l[j+1].1):=fun j h hj=>by omega
     clear h5 h3 HCh HE;generalize l[0]=y at *;simp only[Nat.zero_mul,Nat.add_zero] at x0 x1;go_wp2_with fail;refine(RR _).mono ?_;rintro e w1 ⟨rfl,b1⟩;have B1:Below w.heap.size w w1:=hbel.trans (b1.mono hz);go_wp2;go_quiet (fail);go_wp2;go_roundw
     case rel=>exact⟨1,by omega,by go_num,HH2.out,HC2.out,below_drew B1 nq⟩
     case measure=>simp[RowKit.intOf];omega
    ·have hk1:0<k:=by omega
     have hkm:k - 1<l.length:=by omega
     have dw:IntKind.i64.wrap ((k:Int) - 1)=(k:Int) - 1:=IntWalk.i64_in _ (by omega);have HY:Hid (wr.cell? ⟨b,off+(k - 1)*2,none⟩=some (.int .i64 l[k - 1].1)):=by show _=_;rw[hbel.cell (p:=⟨b,off+(k - 1)*2,none⟩) h4];exact(h5 (k - 1) hkm).1
     have hbw:b<wr.heap.size:=by omega
     by_cases hle:l[k - 1].1<l[k].1
     ·have HC2:Hid (∀j (h:j+1<l.length),j+1<k+1→l[j].1<l[j+1].1):=by
       intro j h hj;by_cases e:j+1<k
       ·exact HCh.out j h e
       ·obtain rfl:j=k - 1:=by omega
        have e2:k - 1+1=k:=by omega
        simp only[e2];exact hle
      have d1:decide (l[k].1≤l[k - 1].1)=false:=by rw[decide_eq_false_iff_not];omega
      clear h5 h3 HCh HE hle;generalize l[k]=y at *;generalize l[k - 1].1=x at *;go_wp2_with fail;refine(RR _).mono ?_;rintro e w1 ⟨rfl,b1⟩;have B1:Below w.heap.size w w1:=hbel.trans (b1.mono hz);have z0:w1.cell? ⟨b,off+k*2,none⟩=some (.int .i64 y.1):=(b1.cell (p:=⟨b,off+k*2,none⟩) hbw).trans x0;have z1:w1.cell? ⟨b,off+(k - 1)*2,none⟩=some (.int .i64 x):=(b1.cell (p:=⟨b,off+(k - 1)*2,none⟩) hbw).trans HY.out;clear x0 x1;go_wp2;go_quiet (fail);go_wp2;go_roundw
      case rel=>exact⟨k+1,by omega,by go_num,HH2.out,HC2.out,below_drew B1 nq⟩
      case measure=>simp[RowKit.intOf];omega
     ·have HN:Hid (¬refsC l=0):=by
       intro e;have:=(HZ.out.1 e).2 (k - 1) (by omega);have e2:k - 1+1=k:=by omega
       simp only[e2] at this;exact hle this
      have d1:decide (l[k].1≤l[k - 1].1)=true:=by rw[decide_eq_true_eq];omega
      have g2:l[k].1≤l[k - 1].1:=by omega
      clear h5 h3 HCh HE hle;generalize l[k]=y at *;generalize l[k - 1].1=x at *;go_wp2_with fail;refine(RR _).mono ?_;rintro e w1 ⟨rfl,b1⟩;have B1:Below w.heap.size w w1:=hbel.trans (b1.mono hz);have z0:w1.cell? ⟨b,off+k*2,none⟩=some (.int .i64 y.1):=(b1.cell (p:=⟨b,off+k*2,none⟩) hbw).trans x0;have z1:w1.cell? ⟨b,off+(k - 1)*2,none⟩=some (.int .i64 x):=(b1.cell (p:=⟨b,off+(k - 1)*2,none⟩) hbw).trans HY.out;clear x0 x1;go_wp2;go_quiet (fail);go_wp2;go_ret;exact⟨⟨5,rfl,by simpa using HN.out⟩,below_drew B1 nq⟩
  ·have HN:Hid (refsC l=0):=HZ.out.2 ⟨fun i h=>hok i h (by omega),fun i h=>hch i h (by omega)⟩;have g1:¬(k:Int)<l.length:=by omega
   clear hok hch;go_wp2;go_ret;exact⟨⟨0,rfl,by simpa using HN.out⟩,hbel⟩
end Go.Proofs.YtamhlgflbacjgaaGreat
