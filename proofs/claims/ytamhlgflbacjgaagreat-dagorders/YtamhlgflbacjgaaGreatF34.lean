/-
  What is proved: as each theorem says.
  Conditions: as each theorem says.
-/
import Derived.Test.YtamhlgflbacjgaaGreatF00
import Derived.Test.YtamhlgflbacjgaaGreatF19
import Derived.Laws.EntriesVeiled
set_option maxRecDepth 100000
set_option maxHeartbeats 16000000
namespace Go.Proofs.YtamhlgflbacjgaaGreat
open Go.RowKit Go.Sort
theorem keep2 {W W':World} {a b:Addr} {u0 u1:Value} (h:W.cell? a=some u0∧W.cell? b=some u1) (hb:Below W.heap.size W W'):W'.cell? a=some u0∧W'.cell? b=some u1:=
 ⟨(hb.cell (cell_in h.1)).trans h.1,(hb.cell (cell_in h.2)).trans h.2⟩
theorem set_at15 {w:World} {g:Nat} {xs:Array Value} {T:TypeId} (h:w.heap[g]?=some (.cells xs T)) (i:Nat) (v:Value):(w.setCell ⟨g,i,none⟩ v).heap[g]?=some (.cells (xs.setIfInBounds i v) T):=set_at h i v
theorem set15 {w:World} {g:Nat} {T:TypeId} {u0 u1 u2 u3 u4 u5 u6 u7 u8 u9 u10 u11 u12 u13 u14:Value} (h:w.heap[g]?=some (.cells #[u0,u1,u2,u3,u4,u5,u6,u7,u8,u9,u10,u11,u12,u13,u14] T)) (v0 v1 v2 v3 v4 v5 v6 v7 v8 v9 v10 v11 v12 v13 v14:Value):
 ((((((((((((((((w.setCell ⟨g,0,none⟩ (v0)).setCell ⟨g,1,none⟩ (v1)).setCell ⟨g,2,none⟩ (v2)).setCell ⟨g,3,none⟩ (v3)).setCell ⟨g,4,none⟩ (v4)).setCell ⟨g,5,none⟩ (v5)).setCell ⟨g,6,none⟩ (v6)).setCell ⟨g,7,none⟩ (v7)).setCell ⟨g,8,none⟩ (v8)).setCell ⟨g,9,none⟩ (v9)).setCell ⟨g,10,none⟩ (v10)).setCell ⟨g,11,none⟩ (v11)).setCell ⟨g,12,none⟩ (v12)).setCell ⟨g,13,none⟩ (v13)).setCell ⟨g,14,none⟩ (v14))).heap[g]?=some (.cells #[v0,v1,v2,v3,v4,v5,v6,v7,v8,v9,v10,v11,v12,v13,v14] T):=by
 have h0:=set_at15 h 0 v0;have h1:=set_at15 h0 1 v1;have h2:=set_at15 h1 2 v2;have h3:=set_at15 h2 3 v3;have h4:=set_at15 h3 4 v4;have h5:=set_at15 h4 5 v5;have h6:=set_at15 h5 6 v6;have h7:=set_at15 h6 7 v7;have h8:=set_at15 h7 8 v8;have h9:=set_at15 h8 9 v9;have h10:=set_at15 h9 10 v10;have h11:=set_at15 h10 11 v11;have h12:=set_at15 h11 12 v12;have h13:=set_at15 h12 13 v13;have h14:=set_at15 h13 14 v14;rw[h14];simp
theorem set15_below {w w':World} {g B:Nat} (h:Below B w w') (hB:B≤g) (v0 v1 v2 v3 v4 v5 v6 v7 v8 v9 v10 v11 v12 v13 v14:Value):
 Below B w (((((((((((((((w'.setCell ⟨g,0,none⟩ (v0)).setCell ⟨g,1,none⟩ (v1)).setCell ⟨g,2,none⟩ (v2)).setCell ⟨g,3,none⟩ (v3)).setCell ⟨g,4,none⟩ (v4)).setCell ⟨g,5,none⟩ (v5)).setCell ⟨g,6,none⟩ (v6)).setCell ⟨g,7,none⟩ (v7)).setCell ⟨g,8,none⟩ (v8)).setCell ⟨g,9,none⟩ (v9)).setCell ⟨g,10,none⟩ (v10)).setCell ⟨g,11,none⟩ (v11)).setCell ⟨g,12,none⟩ (v12)).setCell ⟨g,13,none⟩ (v13)).setCell ⟨g,14,none⟩ (v14)):=
 (((((((((((((((h.setCell hB v0).setCell hB v1).setCell hB v2).setCell hB v3).setCell hB v4).setCell hB v5).setCell hB v6).setCell hB v7).setCell hB v8).setCell hB v9).setCell hB v10).setCell hB v11).setCell hB v12).setCell hB v13).setCell hB v14)
theorem rFits_any (g:Nat) (la:Option Addr) (ln lc:Nat) (vw:Value) (l:List CX) (v:Value) (c:Chg) (w:World) (hg:w.heap[g]?=some (.cells #[.slice la ln lc,vw] 73)) (hl:IsChgs w (.slice la ln lc) l) (hwd:∀x∈l,Wh x.ud) (hv:IsChgW w v c) (hI:Inv (l.map (·.c))) (hc:chk c=0) (hn:l.length≤1000):
 Calls Tryz.prog 67 #[.pointer (some ⟨g,0,none⟩),v] w fun e w'=>(∃b:Bool,e=.returned (.bool b)∧(b=true↔FitC (l.map (·.c)) c))∧Below w.heap.size w w':=by
 obtain⟨ud,uo,lo,rfl,hi,hdp,hop,hlo,wd,_,_⟩:=hv;obtain⟨da,dn,dc,rfl⟩:∃a n c,ud=.slice a n c:=by obtain⟨a,c,e,_⟩:=hdp;exact⟨_,_,_,e⟩
 obtain⟨oa,on,oc,rfl⟩:∃a n c,uo=.slice a n c:=by obtain⟨a,c,e,_⟩:=hop;exact⟨_,_,_,e⟩
 have hon:on=lo.length:=by obtain⟨a,c,e,_⟩:=hop;exact(Value.slice.inj e).2.1
 obtain⟨f,hf⟩:=ops_choice hl;obtain⟨ca,hca⟩:=gNz (c.actor:Int);obtain⟨cs,hcs⟩:=gNz (c.seq:Int);obtain⟨ct,hct⟩:=gNz (c.start:Int);rw[hca,hcs,hct];have few:=chk_few hc;have HFW:=hY4 few.1 few.2.1 ((by rw[←hcs];exact few.2.2.2.2.1):(1≤cs∧cs≤1000000)) ((by rw[←hct];exact few.2.2.2.2.2):(1≤ct∧ct≤1000000));have HV:=hY7 hg hl hwd hdp wd hI hn;have HF:Hid (∀x∈l,IsOps w x.uo (f x)∧(f x).map (·.1)=x.c.ops):=hf;have HO:=hY4 hop hlo hon ((by have:=congrArg List.length hlo;rw[List.length_map] at this;have:=few.2.1;omega):lo.length≤40);have HC:=hY3 hca hcs hct;have HN0:=hY2 (heap_alloc_new w _:(w.alloc (.cells #[.int .i64 ca,.int .i64 cs,.int .i64 ct,.slice da dn dc,.slice oa on oc] 33)).heap[w.heap.size]?=some (.cells #[.int .i64 ca,.int .i64 cs,.int .i64 ct,.slice da dn dc,.slice oa on oc] 33)) (bAl _ _:Below w.heap.size w (w.alloc (.cells #[.int .i64 ca,.int .i64 cs,.int .i64 ct,.slice da dn dc,.slice oa on oc] 33)));have HSM:Hid ((∀x∈l,SmallC x.c)∧∀x∈l,x.c.deps.length≤12):=⟨fun x hx=>small_of (hI.ok _ (List.mem_map.2 ⟨x,hx,rfl⟩)),fun x hx=>(chk_few (hI.ok _ (List.mem_map.2 ⟨x,hx,rfl⟩))).1⟩
 clear hg hl hwd hdp wd hI hn hf hop hlo hon hca hcs hct few hc hi;go_enter Tryz.func67,Tryz.ntmps67
 go_upto_region 1 with fail
 generalize w.alloc (.cells #[.int .i64 ca,.int .i64 cs,.int .i64 ct,.slice da dn dc,.slice oa on oc] 33)=W0 at *;have k0:W0.cell? ⟨g,0,none⟩=some (.slice la ln lc):=cLo ((HN0.out.2.block g (lt_of_heap HV.out.1)).trans HV.out.1) 0;obtain⟨-,-,-,d3,-⟩:=cLs HN0.out.1;have zg:g<W0.heap.size:=Nat.lt_of_lt_of_le (lt_of_heap HV.out.1) HN0.out.2.size;have EB:=rBehind_any (.slice la ln lc) (.slice da dn dc) l c.deps W0.drew (HV.out.2.1.below (drew_of HN0.out.2)) HV.out.2.2.1 (HV.out.2.2.2.1.below (drew_of HN0.out.2)) HV.out.2.2.2.2.1 HV.out.2.2.2.2.2.1.nd HV.out.2.2.2.2.2.2 HSM.out.2 (by have:=HFW.out.1;omega);refine rNh (fun W=>W.cell? ⟨g,0,none⟩=some (.slice la ln lc)∧W.cell? ⟨w.heap.size,3,none⟩=some (.slice da dn dc)) (⟨k0,d3⟩) (fun hHeld=>?_);refine tk 0 rfl ?_;refine tk 1 rfl ?_;refine tk 2 rfl ?_;refine tk 3 rfl ?_;refine tk 4 rfl ?_;refine tk 5 rfl ?_;refine wpAnyH_ready (rs:=[6]) (by kernel_rfl) (by simp) (AllReadyH.cons (o:={dst:=some 19,op:=Op.call {callee:=Callee.value (Operand.func 96),args:=#[Operand.tmp 16,Operand.tmp 18],argTypes:=#[23,30]},type:=30,pos := "book.go:158",after:=#[aD 3,aD 5],guard:=none}) rfl (fun K hK=>?_) AllReadyH.nil);go_simp;go_at_call 96;refine Calls.mono EB ?_;rintro e w6 ⟨⟨qv,O,rfl,hqp,hqw,hqr,hqb⟩,b6⟩;go_wp2_with fail;refine hK.out _ _ (keep2 (by assumption) b6) (fun hHeld6=>?_);clear hK K;try simp only[Act.put,nm]
 refine tk 7 rfl ?_;refine wDn ?_;have HQ:=hY4 hqp hqb (heap_below (show W0.drew.heap[w.heap.size]?=some (.cells #[.int .i64 ca,.int .i64 cs,.int .i64 ct,.slice da dn dc,.slice oa on oc] 33) from HN0.out.1) b6 lRf) ((drew_of HN0.out.2).trans (b6.mono HN0.out.2.size));obtain⟨qa,qn,qc,rfl⟩:∃a n c,qv=.slice a n c:=by obtain⟨a,c,e,_⟩:=hqp;exact⟨_,_,_,e⟩
 obtain⟨HQN⟩:Nonempty (Hid (qn=O.length∧O.length≤8796093022208)):=⟨by obtain⟨a,c9,e,_,h2,_⟩:=hqp;exact⟨(Value.slice.inj e).2.1,h2⟩⟩
 clear hHeld hHeld6 k0 d3 zg EB hqp hqw hqr hqb b6 HN0;go_wp2_with fail;go_loopw [6,7] (fun xb xi wr=>∃(i:Nat) (b:Bool),i≤O.length∧xb=.bool b∧xi=.int .i64 i∧Hid (SeqTo O c i b∧Below w6.heap.size w6 wr)) (fun _ xi _=>O.length - (RowKit.intOf xi).toNat)
 case atStart=>exact⟨0,false,Nat.zero_le _,rfl,rfl,SeqTo.start O c,Below.refl _ _⟩
 case round=>
  obtain⟨i,b,hi,rfl,rfl,hR⟩:=hrel;by_cases hlt:i<O.length
  ·obtain⟨a',c',e9,_,_,_,h4⟩:=id HQ.out.1;obtain⟨pb,po,ha',h5,h6⟩:=h4 (fun e=>by rw[e] at hlt;simp at hlt);have hqa:qa=some ⟨pb,po,none⟩:=(Value.slice.inj e9).1.trans ha';subst hqa;obtain⟨a,ha⟩:=gNz (O[i]:Pr);have HCL:Hid (∀W,Below w6.heap.size w6 W→W.cell? ⟨pb,po+i*2,none⟩=some (.int .i64 a.1)∧W.cell? ⟨pb,po+i*2+1,none⟩=some (.int .i64 a.2)∧W.cell? ⟨w.heap.size,0,none⟩=some (.int .i64 ca)∧W.cell? ⟨w.heap.size,1,none⟩=some (.int .i64 cs)):=fun W hW=>by
    have hx:=heap_below HQ.out.2.2.1 hW lRf;refine⟨?_,?_,cLo hx 0,cLo hx 1⟩
    ·rw[hW.cell (p:=⟨pb,po+i*2,none⟩) h5,←ha];exact(h6 i hlt).1
    ·rw[hW.cell (p:=⟨pb,po+i*2+1,none⟩) h5,←ha];exact(h6 i hlt).2
   have HM:Hid (∃h:i<O.length,O[i]=a):=⟨hlt,ha⟩
   have HS:Hid (SeqTo O c i b):=hR.out.1;have HRB:Hid (Below w6.heap.size w6 wr):=hR.out.2;have g1:(i:Int)<qn:=by have:=HQN.out.1;omega
   have g3:(0:Int)≤i:=by omega
   clear e9 h4 ha' h5 h6 ha hlt hi hR;by_cases haa:a.1=ca
   ·have ja:(a.1==ca)=true:=by rw[beq_iff_eq];exact haa
    have HAA:Hid (a.1=ca):=haa;clear haa;go_upto_region 6 with fail
    refine rNh (fun W=>Below w6.heap.size w6 W) (drew_of HRB.out) (fun hHeld=>?_);refine tkC 0 HCL rfl ?_;refine tkC 1 HCL rfl ?_;refine tkC 2 HCL rfl ?_;refine tkC 3 HCL rfl ?_;refine tkC 4 HCL rfl ?_;refine tkC 5 HCL rfl ?_;refine tkC 6 HCL rfl ?_;refine tkC 7 HCL rfl ?_;refine wDn ?_;clear hHeld ja;have HRB1:Hid (Below w6.heap.size w6 wr.drew):=drew_of HRB.out;clear HRB;generalize wr.drew=WA at *;by_cases hs:cs≤a.2
    ·have HE:Hid (¬FitC (l.map (·.c)) c):=fun h=>by
      obtain⟨h1,e1⟩:=HM.out;refine seq_bad (O:=O) (c:=c) h1 ?_ ?_ ((fitC_iff HQ.out.2.1).1 h).1
      ·rw[e1,HAA.out,HC.out.1]
      ·rw[e1,HC.out.2.1];exact hs
     go_upto_region 7 with fail
     refine rNh (fun W=>Below w6.heap.size w6 W) (drew_of HRB1.out) (fun hHeld=>?_);refine tkC 0 HCL rfl ?_;refine tkC 1 HCL rfl ?_;refine tkC 2 HCL rfl ?_;refine tkC 3 HCL rfl ?_;refine tkC 4 HCL rfl ?_;refine tkC 5 HCL rfl ?_;refine tkC 6 HCL rfl ?_;refine tkC 7 HCL rfl ?_;refine wDn ?_;clear hHeld hs;have HRB2:Hid (Below w.heap.size w WA.drew):=HQ.out.2.2.2.trans ((drew_of HRB1.out).mono HQ.out.2.2.2.size);generalize WA.drew=WB at *;go_wp2;go_ret;first | exact⟨⟨_,rfl,(fun h=>by cases h),fun h=>absurd h HE.out⟩,HRB2.out⟩ | exact⟨Or.inl ⟨rfl,HE.out⟩,HRB2.out⟩
    ·go_upto_region 7 with fail
     refine rNh (fun W=>Below w6.heap.size w6 W) (drew_of HRB1.out) (fun hHeld=>?_);refine tkC 0 HCL rfl ?_;refine tkC 1 HCL rfl ?_;refine tkC 2 HCL rfl ?_;refine tkC 3 HCL rfl ?_;refine tkC 4 HCL rfl ?_;refine tkC 5 HCL rfl ?_;refine tkC 6 HCL rfl ?_;refine tkC 7 HCL rfl ?_;refine wDn ?_;have HSL:Hid (a.2<cs):=by show _<_;omega
     clear hHeld hs;have HRB2:Hid (Below w6.heap.size w6 WA.drew):=drew_of HRB1.out;clear HRB1;generalize WA.drew=WB at *;obtain⟨cp,hcp⟩:=gNz (cs - 1:Int);have hw:IntKind.i64.wrap (cs - 1)=cp:=by rw[←hcp];exact IntWalk.i64_in _ (by have:=HFW.out.2.2.1;omega)
     have hw':wrap64 (cs - 1)=cp:=by rw[←hcp];unfold wrap64;have:=HFW.out.2.2.1;omega
     have HCP:Hid (cs - 1=cp):=hcp;clear hcp;by_cases he:a.2=cp
     ·have je:(a.2==cp)=true:=by rw[beq_iff_eq];exact he
      have HS2:Hid (SeqTo O c (i+1) true):=by
       obtain⟨h1,e1⟩:=HM.out;refine HS.out.just h1 ?_ ?_
       ·rw[e1,HAA.out,HC.out.1]
       ·rw[e1,HC.out.2.1,he,HCP.out]
      clear he;go_upto_region 9 with fail
      refine rNh (fun W=>Below w6.heap.size w6 W) (drew_of HRB2.out) (fun hHeld=>?_);refine tkC 0 HCL rfl ?_;refine tkC 1 HCL rfl ?_;refine tkC 2 HCL rfl ?_;refine tkC 3 HCL rfl ?_;refine tkC 4 HCL rfl ?_;refine tkC 5 HCL rfl ?_;refine tkC 6 HCL rfl ?_;refine tkC 7 HCL rfl ?_;refine tkC 8 HCL rfl ?_;refine wDn ?_;clear hHeld;have HRB3:Hid (Below w6.heap.size w6 WB.drew):=drew_of HRB2.out;clear HRB2;generalize WB.drew=WC at *;go_upto_region 5 with fail
      clear je hw hw';have gm:(i:Int)<8796093022208:=by obtain⟨h,_⟩:=HM.out;have:=HQN.out.2;omega
      go_wp2;go_roundw
      case rel=>obtain⟨h,_⟩:=HM.out;exact⟨i+1,_,h,rfl,by go_num,HS2.out,HRB3.out⟩
      case measure=>obtain⟨h,_⟩:=HM.out;simp[RowKit.intOf];omega
     ·have je:(a.2==cp)=false:=by rw[beq_eq_false_iff_ne];exact he
      have HS2:Hid (SeqTo O c (i+1) b):=by
       obtain⟨h1,e1⟩:=HM.out;refine HS.out.below h1 ?_ ?_
       ·rw[e1,HC.out.2.1];exact HSL.out
       ·rw[e1,HC.out.2.1,HCP.out];exact he
      clear he;go_upto_region 9 with fail
      refine rNh (fun W=>Below w6.heap.size w6 W) (drew_of HRB2.out) (fun hHeld=>?_);refine tkC 0 HCL rfl ?_;refine tkC 1 HCL rfl ?_;refine tkC 2 HCL rfl ?_;refine tkC 3 HCL rfl ?_;refine tkC 4 HCL rfl ?_;refine tkC 5 HCL rfl ?_;refine tkC 6 HCL rfl ?_;refine tkC 7 HCL rfl ?_;refine tkC 8 HCL rfl ?_;refine wDn ?_;clear hHeld;have HRB3:Hid (Below w6.heap.size w6 WB.drew):=drew_of HRB2.out;clear HRB2;generalize WB.drew=WC at *;go_upto_region 5 with fail
      clear je hw hw';have gm:(i:Int)<8796093022208:=by obtain⟨h,_⟩:=HM.out;have:=HQN.out.2;omega
      go_wp2;go_roundw
      case rel=>obtain⟨h,_⟩:=HM.out;exact⟨i+1,_,h,rfl,by go_num,HS2.out,HRB3.out⟩
      case measure=>obtain⟨h,_⟩:=HM.out;simp[RowKit.intOf];omega
   ·have ja:(a.1==ca)=false:=by rw[beq_eq_false_iff_ne];exact haa
    have HS2:Hid (SeqTo O c (i+1) b):=by
     obtain⟨h1,e1⟩:=HM.out;refine HS.out.other h1 ?_;rw[e1,HC.out.1];exact haa
    clear haa;go_upto_region 6 with fail
    refine rNh (fun W=>Below w6.heap.size w6 W) (drew_of HRB.out) (fun hHeld=>?_);refine tkC 0 HCL rfl ?_;refine tkC 1 HCL rfl ?_;refine tkC 2 HCL rfl ?_;refine tkC 3 HCL rfl ?_;refine tkC 4 HCL rfl ?_;refine tkC 5 HCL rfl ?_;refine tkC 6 HCL rfl ?_;refine tkC 7 HCL rfl ?_;refine wDn ?_;clear hHeld ja;have HRB3:Hid (Below w6.heap.size w6 wr.drew):=drew_of HRB.out;clear HRB;generalize wr.drew=WC at *;go_upto_region 5 with fail
    have gm:(i:Int)<8796093022208:=by obtain⟨h,_⟩:=HM.out;have:=HQN.out.2;omega
    go_wp2;go_roundw
    case rel=>obtain⟨h,_⟩:=HM.out;exact⟨i+1,_,h,rfl,by go_num,HS2.out,HRB3.out⟩
    case measure=>obtain⟨h,_⟩:=HM.out;simp[RowKit.intOf];omega
  ·have HSD:Hid ((1<c.seq→b=true)↔SeqOk O c):=hR.out.1.done (by omega);have HRB:Hid (Below w6.heap.size w6 wr):=hR.out.2;have hme:¬(i:Int)<qn:=by have:=HQN.out.1;omega
   obtain⟨-,z1,-⟩:=cLs (heap_below HQ.out.2.2.1 hR.out.2 lRf);have k0:wr.cell? ⟨g,0,none⟩=some (.slice la ln lc):=cLo ((hR.out.2.block g (Nat.lt_of_lt_of_le (lt_of_heap HV.out.1) HQ.out.2.2.2.size)).trans ((HQ.out.2.2.2.block g (lt_of_heap HV.out.1)).trans HV.out.1)) 0;have zg:g<wr.heap.size:=Nat.lt_of_lt_of_le (lt_of_heap HV.out.1) (Nat.le_trans HQ.out.2.2.2.size hR.out.2.size);clear hlt hi hR;by_cases hs1:1<cs
   ·cases b with
    | false=>
     have HE:Hid (¬FitC (l.map (·.c)) c):=fun h=>by
      have:=HSD.out.2 ((fitC_iff HQ.out.2.1).1 h).1;rw[HC.out.2.1] at this;cases this hs1
     clear HSD;go_wp2;go_ret;first | exact⟨⟨_,rfl,(fun h=>by cases h),fun h=>absurd h HE.out⟩,HQ.out.2.2.2.trans (HRB.out.mono HQ.out.2.2.2.size)⟩ | exact⟨Or.inl ⟨rfl,HE.out⟩,HQ.out.2.2.2.trans (HRB.out.mono HQ.out.2.2.2.size)⟩
    | true=>
     have HSQ:Hid (SeqOk O c):=HSD.out.1 (fun _=>rfl);clear HSD;go_upto_region 13 with fail
     clear hs1 z1 hme;have HRW:Hid (Below w.heap.size w wr):=HQ.out.2.2.2.trans (HRB.out.mono HQ.out.2.2.2.size);have HP:=hY2 (HQ.out.1.below HRB.out) (heap_below HQ.out.2.2.1 HRB.out lRf);clear HRB;have EK:=rOps_any (.slice la ln lc) (.slice qa qn qc) l O f wr (HV.out.2.1.below HRW.out) (fun x hx=>⟨(HF.out x hx).1.below HRW.out,(HF.out x hx).2⟩) HSM.out.1 HP.out.1 HV.out.2.2.2.2.2.2;obtain⟨W1,hW1⟩:=gNz (wr);rw[hW1] at HRW HP EK k0 zg ⊢;clear hW1;go_wp2_with fail;go_fit EK;rintro e w2 ⟨⟨kv,rfl,hrow⟩,b2⟩;clear EK k0 zg;obtain⟨K,hK⟩:=gNz (kall f O l);rw[hK] at hrow;have HKL:Hid (K.length≤40000):=by
      show _≤_;have h1:=kall_len f O l (fun x hx=>by
       have h1:=congrArg List.length (HF.out x hx).2;rw[List.length_map] at h1;have:=(HSM.out.1 x hx).2.2;omega)
      have h2:=HV.out.2.2.2.2.2.2;rw[hK] at h1;omega
     have hkn:IsKn w2 kv K:=hrow.kn (by have:=HKL.out;omega) (fun q hq=>by
      rw[←hK] at hq;obtain⟨x,hx,hq2⟩:=kall_mem hq;obtain⟨_,_,_,_,_,h8,_⟩:=(HF.out x hx).1;exact((h8 _ hq2).1.below HRW.out).below b2)
     obtain⟨va,vn,vc,rfl⟩:∃a n c,kv=.slice a n c:=by obtain⟨a,c,e,_⟩:=hkn;exact⟨_,_,_,e⟩
     obtain⟨HKN⟩:Nonempty (Hid (vn=K.length)):=⟨by obtain⟨a,c9,e,_⟩:=hkn;exact(Value.slice.inj e).2.1⟩
     have H2:=hY5 hkn hrow b2 hK (heap_below HP.out.2 b2 lRf);clear hkn hrow b2 hK;go_wp2_with fail;go_loopw [9] (fun xi wr=>∃i:Nat,i≤K.length∧xi=.int .i64 i∧Hid ((∀j (h:j<K.length),j<i→K[j].2.1<ct)∧Below w2.heap.size w2 wr)) (fun xi _=>K.length - (RowKit.intOf xi).toNat)
     case atStart=>exact⟨0,Nat.zero_le _,rfl,fun _ _ h=>absurd h (Nat.not_lt_zero _),Below.refl _ _⟩
     case round=>
      obtain⟨i,hi,rfl,hR⟩:=hrel;by_cases hlt:i<K.length
      ·obtain⟨kb,ko,hka,hkb,_,hkc⟩:=kn_cells H2.out.1 hlt;subst hka;obtain⟨kn,hkn⟩:=gNz (K[i].2.1:Int);have HCL:Hid (∀W,Below w2.heap.size w2 W→W.cell? ⟨kb,ko+i*15+13,none⟩=some (.int .i64 kn)∧W.cell? ⟨w.heap.size,2,none⟩=some (.int .i64 ct)):=fun W hW=>by
        refine⟨?_,cLo (heap_below H2.out.2.2.2.2 hW lRf) 2⟩;rw[hW.cell (p:=⟨kb,ko+i*15+13,none⟩) hkb,hkc 13 (by omega),←hkn];rfl
       have HM:Hid ((∃h:i<K.length,K[i].2.1=kn)∧∀j (h:j<K.length),j<i→K[j].2.1<ct):=⟨⟨hlt,hkn⟩,hR.out.1⟩
       have HRB:Hid (Below w2.heap.size w2 wr):=hR.out.2;have g1:(i:Int)<vn:=by have:=HKN.out;omega
       have g3:(0:Int)≤i:=by omega
       clear hkb hkc hkn hlt hi hR;by_cases hs:ct≤kn
       ·have HE:Hid (¬FitC (l.map (·.c)) c):=fun h=>by
         have h1:=num_ops.2 ((fitC_iff HQ.out.2.1).1 h).2.1;obtain⟨⟨h2,e2⟩,_⟩:=HM.out;have h3:=h1 ((keM K)[i]'(by rw[keM_len];exact h2)) (by
          rw[←keM_kall f O l (fun x hx=>(HF.out x hx).2),H2.out.2.2.2.1];exact List.getElem_mem _)
         rw[keM_at,HC.out.2.2] at h3;simp only[e2] at h3;omega
        go_upto_region 17 with fail
        refine rNh (fun W=>Below w2.heap.size w2 W) (drew_of HRB.out) (fun hHeld=>?_);refine tkC 0 HCL rfl ?_;refine tkC 1 HCL rfl ?_;refine tkC 2 HCL rfl ?_;refine tkC 3 HCL rfl ?_;refine tkC 4 HCL rfl ?_;refine tkC 5 HCL rfl ?_;refine tkC 6 HCL rfl ?_;refine tkC 7 HCL rfl ?_;refine tkC 8 HCL rfl ?_;refine wDn ?_;clear hHeld hs;have HRB2:Hid (Below w.heap.size w wr.drew):=(HRW.out.trans (H2.out.2.2.1.mono HRW.out.size)).trans ((drew_of HRB.out).mono (Nat.le_trans HRW.out.size H2.out.2.2.1.size));generalize wr.drew=WB at *;go_wp2;go_ret;first | exact⟨⟨_,rfl,(fun h=>by cases h),fun h=>absurd h HE.out⟩,HRB2.out⟩ | exact⟨Or.inl ⟨rfl,HE.out⟩,HRB2.out⟩
       ·go_upto_region 17 with fail
        refine rNh (fun W=>Below w2.heap.size w2 W) (drew_of HRB.out) (fun hHeld=>?_);refine tkC 0 HCL rfl ?_;refine tkC 1 HCL rfl ?_;refine tkC 2 HCL rfl ?_;refine tkC 3 HCL rfl ?_;refine tkC 4 HCL rfl ?_;refine tkC 5 HCL rfl ?_;refine tkC 6 HCL rfl ?_;refine tkC 7 HCL rfl ?_;refine tkC 8 HCL rfl ?_;refine wDn ?_;have HNX:Hid (∀j (h:j<K.length),j<i+1→K[j].2.1<ct):=fun j hj hji=>by
         obtain⟨⟨h2,e2⟩,h3⟩:=HM.out;rcases Nat.lt_or_ge j i with h1 | h1
         ·exact h3 j hj h1
         ·obtain rfl:j=i:=by omega
          rw[e2];omega
        clear hHeld hs;have HRB2:Hid (Below w2.heap.size w2 wr.drew):=drew_of HRB.out;clear HRB;generalize wr.drew=WB at *;go_upto_region 16 with fail
        have gm:(i:Int)<40000:=by obtain⟨⟨h,_⟩,_⟩:=HM.out;have:=HKL.out;omega
        go_wp2;go_roundw
        case rel=>obtain⟨⟨h,_⟩,_⟩:=HM.out;exact⟨i+1,h,by go_num,HNX.out,HRB2.out⟩
        case measure=>obtain⟨⟨h,_⟩,_⟩:=HM.out;simp[RowKit.intOf];omega
      ·have HNU:Hid (NumOk (l.map (·.c)) O c):=by
        refine num_ops.1 fun q hq=>?_;rw[←keM_kall f O l (fun x hx=>(HF.out x hx).2),H2.out.2.2.2.1] at hq;obtain⟨j,hj,rfl⟩:=List.getElem_of_mem hq;rw[keM_at,HC.out.2.2];exact hR.out.1 j (by rw[keM_len] at hj;exact hj) (by rw[keM_len] at hj;omega)
       have HR3:=hY2 (own_below H2.out.2.1 hR.out.2 lRf) (H2.out.2.2.1.trans (hR.out.2.mono H2.out.2.2.1.size));have hme:¬(i:Int)<vn:=by have:=HKN.out;omega
       have HKE:Hid (kall f O l=K):=H2.out.2.2.2.1;clear hlt hi hR H2 HKN;obtain⟨w3,hw3⟩:=gNz (wr);rw[hw3] at HR3 ⊢;clear hw3 wr;go_wp2_with fail;clear hme;go_loopw [8,10] (fun xk xi wr=>∃(i:Nat) (vk:Value),i≤lo.length∧xi=.int .i64 i∧vk=xk∧Hid (RowK W1.heap.size vk (K++kes c (lo.take i)) wr∧(∀j (h:j<c.ops.length),j<i→mayM c.ops[j] (c.start+(j:Int),c.actor) (lkc (subL (l.map (·.c)) O++[cutC c j]))=true)∧Below W1.heap.size W1 wr)) (fun _ xi _=>lo.length - (RowKit.intOf xi).toNat)
       case atStart=>exact⟨0,_,Nat.zero_le _,rfl,rfl,by rw[List.take_zero];simpa [kes] using HR3.out.1,fun _ _ h=>absurd h (Nat.not_lt_zero _),HR3.out.2⟩
       case round=>
        clear HR3;obtain⟨i,vk,hi,rfl,rfl,hR⟩:=hrel;have HRB:Hid (Below W1.heap.size W1 wr):=hR.out.2.2;obtain⟨-,-,-,-,y4,-⟩:=cLs (heap_below HP.out.2 HRB.out lRf);by_cases hlt:i<lo.length
        ·obtain⟨a8,c8,e8,_,_,h8,h9⟩:=id HO.out.1;obtain⟨ob,oo,ha8,hob,hcell⟩:=h9 (fun e=>by rw[e] at hlt;simp at hlt);have hua:oa=some ⟨ob,oo,none⟩:=(Value.slice.inj e8).1.trans ha8;obtain⟨⟨o,pv⟩,hq⟩:∃z:OV,lo[i]=z:=⟨_,rfl⟩
         obtain⟨hpp,hpx⟩:=h8 lo[i] (List.getElem_mem hlt);clear hpx;rw[hq] at hpp;obtain⟨pa,pn,pc,rfl⟩:∃a n c,pv=.slice a n c:=by
          obtain⟨a7,c7,e7,_⟩:=hpp;exact⟨_,_,_,e7⟩
         subst hua;have HCL:Hid (∀W,Below W1.heap.size W1 W→W.cell? ⟨ob,oo+i*13,none⟩=some (.int .i64 o.kind)∧W.cell? ⟨ob,oo+i*13+1,none⟩=some (.int .i64 o.obj.1)∧W.cell? ⟨ob,oo+i*13+2,none⟩=some (.int .i64 o.obj.2)∧W.cell? ⟨ob,oo+i*13+3,none⟩=some (.string o.key)∧W.cell? ⟨ob,oo+i*13+4,none⟩=some (.int .i64 o.elem.1)∧W.cell? ⟨ob,oo+i*13+5,none⟩=some (.int .i64 o.elem.2)∧W.cell? ⟨ob,oo+i*13+6,none⟩=some (.bool o.ins)∧W.cell? ⟨ob,oo+i*13+7,none⟩=some (.int .i64 o.val.k)∧W.cell? ⟨ob,oo+i*13+8,none⟩=some (.int .i64 o.val.n)∧W.cell? ⟨ob,oo+i*13+9,none⟩=some (.string o.val.t)∧W.cell? ⟨ob,oo+i*13+10,none⟩=some (.int .i64 o.val.o)∧W.cell? ⟨ob,oo+i*13+11,none⟩=some (.int .i64 o.val.a)∧W.cell? ⟨ob,oo+i*13+12,none⟩=some (.slice pa pn pc)∧W.cell? ⟨w.heap.size,0,none⟩=some (.int .i64 ca)∧W.cell? ⟨w.heap.size,2,none⟩=some (.int .i64 ct)∧W.cell? ⟨w.heap.size,4,none⟩=some (.slice (some ⟨ob,oo,none⟩) on oc)):=fun W hW=>by
          have hx:=heap_below HP.out.2 hW lRf;have hc:∀j,j<13→W.cell? ⟨ob,oo+i*13+j,none⟩=(opCells o (.slice pa pn pc))[j]?:=fun j hj=>by rw[hW.cell (p:=⟨ob,oo+i*13+j,none⟩) (Nat.lt_of_lt_of_le hob HRW.out.size),HRW.out.cell (p:=⟨ob,oo+i*13+j,none⟩) hob,hcell i hlt j hj,hq]
          exact⟨hc 0 (by omega),hc 1 (by omega),hc 2 (by omega),hc 3 (by omega),hc 4 (by omega),hc 5 (by omega),hc 6 (by omega),hc 7 (by omega),hc 8 (by omega),hc 9 (by omega),hc 10 (by omega),hc 11 (by omega),hc 12 (by omega),cLo hx 0,cLo hx 2,cLo hx 4⟩
         obtain⟨ctk,hctk⟩:=gNz (ct+(i:Int):Int);have hw:IntKind.i64.wrap (ct+(i:Int))=ctk:=by
          rw[←hctk];exact IntWalk.i64_in _ (by have h2:=HFW.out.2.2.2;have h4:=HO.out.2.2.2;omega)
         obtain⟨vka,vkn,vkc,rfl⟩:∃a n c,vk=.slice a n c:=by
          rcases hR.out.1.2 with⟨e,_⟩ | ⟨g9,cap,cur,e,_⟩ <;> exact⟨_,_,_,e⟩
         have HQ9:=hY3 (⟨hlt,hq⟩:(∃h:i<lo.length,lo[i]=(o,.slice pa pn pc))) hpp hctk;have HRK:Hid (RowK W1.heap.size (.slice vka vkn vkc) (K++kes c (lo.take i)) wr):=hR.out.1;have HMS:Hid (∀j (h:j<c.ops.length),j<i→mayM c.ops[j] (c.start+(j:Int),c.actor) (lkc (subL (l.map (·.c)) O++[cutC c j]))=true):=hR.out.2.1;have HD:=hY2 (drew_of HRB.out) ((Below.refl _ _).drew:Below wr.heap.size wr wr.drew);have g5:(i:Int)<on:=by have:=HO.out.2.2.1;omega
         have g6:(0:Int)≤i:=by omega
         clear e8 h8 h9 ha8 hob hcell hq hpp hctk hlt hi hR;go_upto_region 22 with fail
         clear y4;refine rNh (fun W=>Below W1.heap.size W1 W) (drew_of HRB.out) (fun hHeld=>?_);refine tkC 0 HCL rfl ?_;refine tkC 1 HCL rfl ?_;refine tkC 2 HCL rfl ?_;refine tkC 3 HCL rfl ?_;refine tkC 4 HCL rfl ?_;refine tkC 5 HCL rfl ?_;refine tkC 6 HCL rfl ?_;refine tkC 7 HCL rfl ?_;refine tkC 8 HCL rfl ?_;refine tkC 9 HCL rfl ?_;refine tkC 10 HCL rfl ?_;refine tkC 11 HCL rfl ?_;refine tkC 12 HCL rfl ?_;generalize wr.drew=wd at *;refine wpAnyH_ready (rs:=[13]) (by kernel_rfl) (by simp) (AllReadyH.cons (o:={dst:=some 11,op:=Op.alloc 131,type:=0,pos := "book.go:180",after:=#[],guard:=none}) rfl (fun K hK=>?_) AllReadyH.nil);go_simp;refine hK.out _ _ (HD.out.1.alloc HD.out.1.size _) (fun hHeld13=>?_);clear hK K;try simp only[Act.put,nm]
         have nb:(wd.alloc (.cells #[.int .i64 0,.int .i64 0,.int .i64 0,.string ⟨#[]⟩,.int .i64 0,.int .i64 0,.bool false,.int .i64 0,.int .i64 0,.string ⟨#[]⟩,.int .i64 0,.int .i64 0,.slice none 0 0,.int .i64 0,.int .i64 0] 131)).heap[wd.heap.size]?=some (.cells #[.int .i64 0,.int .i64 0,.int .i64 0,.string ⟨#[]⟩,.int .i64 0,.int .i64 0,.bool false,.int .i64 0,.int .i64 0,.string ⟨#[]⟩,.int .i64 0,.int .i64 0,.slice none 0 0,.int .i64 0,.int .i64 0] 131):=heap_alloc_new wd _;have hW:Below W1.heap.size W1 (wd.alloc (.cells #[.int .i64 0,.int .i64 0,.int .i64 0,.string ⟨#[]⟩,.int .i64 0,.int .i64 0,.bool false,.int .i64 0,.int .i64 0,.string ⟨#[]⟩,.int .i64 0,.int .i64 0,.slice none 0 0,.int .i64 0,.int .i64 0] 131)):=HD.out.1.alloc HD.out.1.size _;have hWr:Below wr.heap.size wr (wd.alloc (.cells #[.int .i64 0,.int .i64 0,.int .i64 0,.string ⟨#[]⟩,.int .i64 0,.int .i64 0,.bool false,.int .i64 0,.int .i64 0,.string ⟨#[]⟩,.int .i64 0,.int .i64 0,.slice none 0 0,.int .i64 0,.int .i64 0] 131)):=HD.out.2.alloc HD.out.2.size _;have hz1:W1.heap.size≤wd.heap.size:=HD.out.1.size;have hz2:wr.heap.size≤wd.heap.size:=HD.out.2.size;generalize wd.alloc (.cells #[.int .i64 0,.int .i64 0,.int .i64 0,.string ⟨#[]⟩,.int .i64 0,.int .i64 0,.bool false,.int .i64 0,.int .i64 0,.string ⟨#[]⟩,.int .i64 0,.int .i64 0,.slice none 0 0,.int .i64 0,.int .i64 0] 131)=WA at *;obtain⟨mb,hmb⟩:=gNz (wd.heap.size);rw[hmb] at nb hz1 hz2 ⊢;clear hmb;obtain⟨nn0,nn1,nn2,nn3,nn4,nn5,nn6,nn7,nn8,nn9,nn10,nn11,nn12,nn13,nn14,-⟩:=cLs nb;have nf:=fRz nb;have HNB:=hY5 nb hW hWr hz1 hz2;clear nb hW hWr hz1 hz2;refine wpAnyH_ready (rs:=[14]) (by kernel_rfl) (by simp) (AllReadyH.cons (o:={dst:=none,op:=Op.store 131 (Operand.tmp 11) (Operand.tmp 98),type:=0,pos := "book.go:180",after:=#[aD 13,aD 12,aP 0,aP 1,aP 2,aP 3,aP 4,aP 5,aP 6,aP 7,aP 8,aP 9,aP 10,aP 11,aP 12,aP 13],guard:=none}) rfl (fun K hK=>?_) AllReadyH.nil);go_simp;refine hK.out _ _ (set15_below HNB.out.2.1 HNB.out.2.2.2.1 (.int .i64 o.kind) (.int .i64 o.obj.1) (.int .i64 o.obj.2) (.string o.key) (.int .i64 o.elem.1) (.int .i64 o.elem.2) (.bool o.ins) (.int .i64 o.val.k) (.int .i64 o.val.n) (.string o.val.t) (.int .i64 o.val.o) (.int .i64 o.val.a) (.slice pa pn pc) (.int .i64 ctk) (.int .i64 ca)) (fun hHeld14=>?_);clear hK K;try simp only[Act.put,nm]
         refine wDn ?_;have HXf:Hid (((((((((((((((((WA.setCell ⟨mb,0,none⟩ (.int .i64 o.kind)).setCell ⟨mb,1,none⟩ (.int .i64 o.obj.1)).setCell ⟨mb,2,none⟩ (.int .i64 o.obj.2)).setCell ⟨mb,3,none⟩ (.string o.key)).setCell ⟨mb,4,none⟩ (.int .i64 o.elem.1)).setCell ⟨mb,5,none⟩ (.int .i64 o.elem.2)).setCell ⟨mb,6,none⟩ (.bool o.ins)).setCell ⟨mb,7,none⟩ (.int .i64 o.val.k)).setCell ⟨mb,8,none⟩ (.int .i64 o.val.n)).setCell ⟨mb,9,none⟩ (.string o.val.t)).setCell ⟨mb,10,none⟩ (.int .i64 o.val.o)).setCell ⟨mb,11,none⟩ (.int .i64 o.val.a)).setCell ⟨mb,12,none⟩ (.slice pa pn pc)).setCell ⟨mb,13,none⟩ (.int .i64 ctk)).setCell ⟨mb,14,none⟩ (.int .i64 ca))).heap[mb]?=some (.cells (opB o o.ins (.slice pa pn pc) ctk ca) 131)):=set15 HNB.out.1 (.int .i64 o.kind) (.int .i64 o.obj.1) (.int .i64 o.obj.2) (.string o.key) (.int .i64 o.elem.1) (.int .i64 o.elem.2) (.bool o.ins) (.int .i64 o.val.k) (.int .i64 o.val.n) (.string o.val.t) (.int .i64 o.val.o) (.int .i64 o.val.a) (.slice pa pn pc) (.int .i64 ctk) (.int .i64 ca);have hbf:Below W1.heap.size W1 (((((((((((((((WA.setCell ⟨mb,0,none⟩ (.int .i64 o.kind)).setCell ⟨mb,1,none⟩ (.int .i64 o.obj.1)).setCell ⟨mb,2,none⟩ (.int .i64 o.obj.2)).setCell ⟨mb,3,none⟩ (.string o.key)).setCell ⟨mb,4,none⟩ (.int .i64 o.elem.1)).setCell ⟨mb,5,none⟩ (.int .i64 o.elem.2)).setCell ⟨mb,6,none⟩ (.bool o.ins)).setCell ⟨mb,7,none⟩ (.int .i64 o.val.k)).setCell ⟨mb,8,none⟩ (.int .i64 o.val.n)).setCell ⟨mb,9,none⟩ (.string o.val.t)).setCell ⟨mb,10,none⟩ (.int .i64 o.val.o)).setCell ⟨mb,11,none⟩ (.int .i64 o.val.a)).setCell ⟨mb,12,none⟩ (.slice pa pn pc)).setCell ⟨mb,13,none⟩ (.int .i64 ctk)).setCell ⟨mb,14,none⟩ (.int .i64 ca)):=set15_below HNB.out.2.1 HNB.out.2.2.2.1 (.int .i64 o.kind) (.int .i64 o.obj.1) (.int .i64 o.obj.2) (.string o.key) (.int .i64 o.elem.1) (.int .i64 o.elem.2) (.bool o.ins) (.int .i64 o.val.k) (.int .i64 o.val.n) (.string o.val.t) (.int .i64 o.val.o) (.int .i64 o.val.a) (.slice pa pn pc) (.int .i64 ctk) (.int .i64 ca)
         have HRK3:Hid (RowK W1.heap.size (.slice vka vkn vkc) (K++kes c (lo.take i)) (((((((((((((((WA.setCell ⟨mb,0,none⟩ (.int .i64 o.kind)).setCell ⟨mb,1,none⟩ (.int .i64 o.obj.1)).setCell ⟨mb,2,none⟩ (.int .i64 o.obj.2)).setCell ⟨mb,3,none⟩ (.string o.key)).setCell ⟨mb,4,none⟩ (.int .i64 o.elem.1)).setCell ⟨mb,5,none⟩ (.int .i64 o.elem.2)).setCell ⟨mb,6,none⟩ (.bool o.ins)).setCell ⟨mb,7,none⟩ (.int .i64 o.val.k)).setCell ⟨mb,8,none⟩ (.int .i64 o.val.n)).setCell ⟨mb,9,none⟩ (.string o.val.t)).setCell ⟨mb,10,none⟩ (.int .i64 o.val.o)).setCell ⟨mb,11,none⟩ (.int .i64 o.val.a)).setCell ⟨mb,12,none⟩ (.slice pa pn pc)).setCell ⟨mb,13,none⟩ (.int .i64 ctk)).setCell ⟨mb,14,none⟩ (.int .i64 ca))):=own_below HRK.out (set15_below HNB.out.2.2.1 HNB.out.2.2.2.2 (.int .i64 o.kind) (.int .i64 o.obj.1) (.int .i64 o.obj.2) (.string o.key) (.int .i64 o.elem.1) (.int .i64 o.elem.2) (.bool o.ins) (.int .i64 o.val.k) (.int .i64 o.val.n) (.string o.val.t) (.int .i64 o.val.o) (.int .i64 o.val.a) (.slice pa pn pc) (.int .i64 ctk) (.int .i64 ca)) lRf;clear nn0 nn1 nn2 nn3 nn4 nn5 nn6 nn7 nn8 nn9 nn10 nn11 nn12 nn13 nn14 nf HNB HRK hHeld hHeld13 hHeld14 HRB HD hw;generalize (((((((((((((((WA.setCell ⟨mb,0,none⟩ (.int .i64 o.kind)).setCell ⟨mb,1,none⟩ (.int .i64 o.obj.1)).setCell ⟨mb,2,none⟩ (.int .i64 o.obj.2)).setCell ⟨mb,3,none⟩ (.string o.key)).setCell ⟨mb,4,none⟩ (.int .i64 o.elem.1)).setCell ⟨mb,5,none⟩ (.int .i64 o.elem.2)).setCell ⟨mb,6,none⟩ (.bool o.ins)).setCell ⟨mb,7,none⟩ (.int .i64 o.val.k)).setCell ⟨mb,8,none⟩ (.int .i64 o.val.n)).setCell ⟨mb,9,none⟩ (.string o.val.t)).setCell ⟨mb,10,none⟩ (.int .i64 o.val.o)).setCell ⟨mb,11,none⟩ (.int .i64 o.val.a)).setCell ⟨mb,12,none⟩ (.slice pa pn pc)).setCell ⟨mb,13,none⟩ (.int .i64 ctk)).setCell ⟨mb,14,none⟩ (.int .i64 ca))=wf at *;have HBF:Hid (Below W1.heap.size W1 wf):=hbf;clear hbf;have hk9:IsKn wf (.slice vka vkn vkc) (K++kes c (lo.take i)):=HRK3.out.kn (by
          have h1:=HKL.out;have h2:=HO.out.2.2.2;rw[List.length_append,kes_len,List.length_take];omega) (fun q hq=>by
          rcases List.mem_append.1 hq with hq | hq
          ·rw[←HKE.out] at hq;obtain⟨x,hx,hq2⟩:=kall_mem hq;obtain⟨_,_,_,_,_,h8,_⟩:=(HF.out x hx).1;exact((h8 _ hq2).1.below HRW.out).below (HBF.out.mono lRf)
          ·obtain⟨j,hj,rfl⟩:=List.getElem_of_mem hq;rw[kes_at];obtain⟨_,_,_,_,_,h8,_⟩:=HO.out.1;exact((h8 _ (List.mem_of_mem_take (List.getElem_mem _))).1.below HRW.out).below HBF.out)
         have EM:=rMay_any o pa pn pc (ctk,ca) (.slice vka vkn vkc) (K++kes c (lo.take i)) wf hk9 ((HQ9.out.2.1.below HRW.out).below HBF.out);obtain⟨mb9,hmb9⟩:=gNz (mayM o (ctk,ca) (lkK (keM (K++kes c (lo.take i)))):Bool);rw[hmb9] at EM;have HMB:Hid (∃h:i<c.ops.length,mayM c.ops[i] (c.start+(i:Int),c.actor) (lkc (subL (l.map (·.c)) O++[cutC c i]))=mb9):=by
          obtain⟨⟨h1,e1⟩,_,e3⟩:=HQ9.out;have hl9:i<c.ops.length:=by rw[←HO.out.2.1,List.length_map];exact h1
          refine⟨hl9,?_⟩;rw[←hmb9,←HKE.out,known_own rfl (fun x hx=>(HF.out x hx).2) HO.out.2.1,HC.out.1,HC.out.2.2,e3];have:c.ops[i]=o:=by
           have h2:(lo.map (·.1))[i]'(by rw[List.length_map];exact h1)=o:=by rw[List.getElem_map,e1]
           rw[←h2];congr 1;exact HO.out.2.1.symm
          rw[this]
         clear hk9 hmb9;obtain⟨xx0,xx1,xx2,xx3,xx4,xx5,xx6,xx7,xx8,xx9,xx10,xx11,xx12,xx13,xx14,-⟩:=cLs HXf.out;go_wp2_with fail;go_fit EM;rintro e w4 ⟨rfl,b4⟩;clear EM xx0 xx1 xx2 xx3 xx4 xx5 xx6 xx7 xx8 xx9 xx10 xx11 xx12 xx13 xx14;have HB4:Hid (Below W1.heap.size W1 w4):=HBF.out.trans (b4.mono HBF.out.size);have HR4:=hY2 (own_below HRK3.out b4 lRf) (heap_below HXf.out b4 lRf);clear HBF HRK3 HXf b4;cases mb9 with
         | false=>
          have HE:Hid (¬FitC (l.map (·.c)) c):=fun h=>by
           obtain⟨h1,e1⟩:=HMB.out;have:=((fitC_iff HQ.out.2.1).1 h).2.2 i h1;rw[e1] at this;cases this
          clear HMB;go_wp2;go_ret;first | exact⟨⟨_,rfl,(fun h=>by cases h),fun h=>absurd h HE.out⟩,HRW.out.trans (HB4.out.mono HRW.out.size)⟩ | exact⟨Or.inl ⟨rfl,HE.out⟩,HRW.out.trans (HB4.out.mono HRW.out.size)⟩
         | true=>
          have HMS2:Hid (∀j (h:j<c.ops.length),j<i+1→mayM c.ops[j] (c.start+(j:Int),c.actor) (lkc (subL (l.map (·.c)) O++[cutC c j]))=true):=fun j hj hji=>by
           rcases Nat.lt_or_ge j i with h1 | h1
           ·exact HMS.out j hj h1
           ·obtain rfl:j=i:=by omega
            exact HMB.out.2
          clear HMS HMB;go_upto_region 26 with fail
          have b9:Below w4.heap.size w4 (w4.alloc (.cells (opB o o.ins (.slice pa pn pc) ctk ca) 131)):=bAl w4 _;obtain⟨v9,U9,happ,row9,gr9⟩:=run_appK 100 (w4.alloc (.cells (opB o o.ins (.slice pa pn pc) ctk ca) 131)) W1.heap.size (Nat.le_trans HB4.out.size b9.size) (.slice vka vkn vkc) (K++kes c (lo.take i)) o pa pn pc (ctk,ca) (own_below HR4.out.1 b9 lRf) (by
           have h1:=HKL.out;have h2:=HO.out.2.2.2;rw[List.length_append,kes_len,List.length_take];omega) w4.heap.size (heap_alloc_new w4 _)
          have HRB3:Hid (Below W1.heap.size W1 U9):=(HB4.out.trans (b9.mono HB4.out.size)).grown gr9 (HB4.out.trans (b9.mono HB4.out.size)).size (fun j e=>(HR4.out.1.lt j e).1);have HNX:Hid (RowK W1.heap.size v9 (K++kes c (lo.take (i+1))) U9):=by
           show RowK _ _ _ _;obtain⟨⟨h1,e1⟩,_,e3⟩:=HQ9.out;rw[kes_snoc c lo i h1,←List.append_assoc,e1,HC.out.1,HC.out.2.2,e3];exact row9
          obtain⟨xx0,xx1,xx2,xx3,xx4,xx5,xx6,xx7,xx8,xx9,xx10,xx11,xx12,xx13,xx14,-⟩:=cLs HR4.out.2;clear b9 row9 gr9 HR4;go_upto_region 21 with(first | (at_builtin;refine wp_append rfl _ _ 100 rfl _ _ _ _ rfl rfl happ ?_))
          clear xx0 xx1 xx2 xx3 xx4 xx5 xx6 xx7 xx8 xx9 xx10 xx11 xx12 xx13 xx14 happ;have gm:(i:Int)<40:=by obtain⟨⟨h,_⟩,_⟩:=HQ9.out;have:=HO.out.2.2.2;omega
          go_wp2;go_roundw
          case rel=>obtain⟨⟨h,_⟩,_⟩:=HQ9.out;exact⟨i+1,v9,h,by go_num,rfl,HNX.out,HMS2.out,HRB3.out⟩
          case measure=>obtain⟨⟨h,_⟩,_⟩:=HQ9.out;simp[RowKit.intOf];omega
        ·have hme:¬(i:Int)<on:=by have:=HO.out.2.2.1;omega
         have HE:Hid (FitC (l.map (·.c)) c∧Below w.heap.size w wr):=⟨(fitC_iff HQ.out.2.1).2 ⟨HSQ.out,HNU.out,fun j hj=>hR.out.2.1 j hj (by
          have h1:=congrArg List.length HO.out.2.1;rw[List.length_map] at h1;omega)⟩,HRW.out.trans (HRB.out.mono HRW.out.size)⟩
         clear hlt hi hR;go_wp2;go_ret;first | exact⟨⟨_,rfl,(fun _=>HE.out.1),fun _=>rfl⟩,HE.out.2⟩ | exact⟨Or.inr ⟨rfl,HE.out.1⟩,HE.out.2⟩
   ·have HSQ:Hid (SeqOk O c):=HSD.out.1 (fun h=>by rw[HC.out.2.1] at h;exact absurd h hs1);clear HSD;go_upto_region 13 with fail
    clear hs1 z1 hme;have HRW:Hid (Below w.heap.size w wr):=HQ.out.2.2.2.trans (HRB.out.mono HQ.out.2.2.2.size);have HP:=hY2 (HQ.out.1.below HRB.out) (heap_below HQ.out.2.2.1 HRB.out lRf);clear HRB;have EK:=rOps_any (.slice la ln lc) (.slice qa qn qc) l O f wr (HV.out.2.1.below HRW.out) (fun x hx=>⟨(HF.out x hx).1.below HRW.out,(HF.out x hx).2⟩) HSM.out.1 HP.out.1 HV.out.2.2.2.2.2.2;obtain⟨W1,hW1⟩:=gNz (wr);rw[hW1] at HRW HP EK k0 zg ⊢;clear hW1;go_wp2_with fail;go_fit EK;rintro e w2 ⟨⟨kv,rfl,hrow⟩,b2⟩;clear EK k0 zg;obtain⟨K,hK⟩:=gNz (kall f O l);rw[hK] at hrow;have HKL:Hid (K.length≤40000):=by
     show _≤_;have h1:=kall_len f O l (fun x hx=>by
      have h1:=congrArg List.length (HF.out x hx).2;rw[List.length_map] at h1;have:=(HSM.out.1 x hx).2.2;omega)
     have h2:=HV.out.2.2.2.2.2.2;rw[hK] at h1;omega
    have hkn:IsKn w2 kv K:=hrow.kn (by have:=HKL.out;omega) (fun q hq=>by
     rw[←hK] at hq;obtain⟨x,hx,hq2⟩:=kall_mem hq;obtain⟨_,_,_,_,_,h8,_⟩:=(HF.out x hx).1;exact((h8 _ hq2).1.below HRW.out).below b2)
    obtain⟨va,vn,vc,rfl⟩:∃a n c,kv=.slice a n c:=by obtain⟨a,c,e,_⟩:=hkn;exact⟨_,_,_,e⟩
    obtain⟨HKN⟩:Nonempty (Hid (vn=K.length)):=⟨by obtain⟨a,c9,e,_⟩:=hkn;exact(Value.slice.inj e).2.1⟩
    have H2:=hY5 hkn hrow b2 hK (heap_below HP.out.2 b2 lRf);clear hkn hrow b2 hK;go_wp2_with fail;go_loopw [9] (fun xi wr=>∃i:Nat,i≤K.length∧xi=.int .i64 i∧Hid ((∀j (h:j<K.length),j<i→K[j].2.1<ct)∧Below w2.heap.size w2 wr)) (fun xi _=>K.length - (RowKit.intOf xi).toNat)
    case atStart=>exact⟨0,Nat.zero_le _,rfl,fun _ _ h=>absurd h (Nat.not_lt_zero _),Below.refl _ _⟩
    case round=>
     obtain⟨i,hi,rfl,hR⟩:=hrel;by_cases hlt:i<K.length
     ·obtain⟨kb,ko,hka,hkb,_,hkc⟩:=kn_cells H2.out.1 hlt;subst hka;obtain⟨kn,hkn⟩:=gNz (K[i].2.1:Int);have HCL:Hid (∀W,Below w2.heap.size w2 W→W.cell? ⟨kb,ko+i*15+13,none⟩=some (.int .i64 kn)∧W.cell? ⟨w.heap.size,2,none⟩=some (.int .i64 ct)):=fun W hW=>by
       refine⟨?_,cLo (heap_below H2.out.2.2.2.2 hW lRf) 2⟩;rw[hW.cell (p:=⟨kb,ko+i*15+13,none⟩) hkb,hkc 13 (by omega),←hkn];rfl
      have HM:Hid ((∃h:i<K.length,K[i].2.1=kn)∧∀j (h:j<K.length),j<i→K[j].2.1<ct):=⟨⟨hlt,hkn⟩,hR.out.1⟩
      have HRB:Hid (Below w2.heap.size w2 wr):=hR.out.2;have g1:(i:Int)<vn:=by have:=HKN.out;omega
      have g3:(0:Int)≤i:=by omega
      clear hkb hkc hkn hlt hi hR;by_cases hs:ct≤kn
      ·have HE:Hid (¬FitC (l.map (·.c)) c):=fun h=>by
        have h1:=num_ops.2 ((fitC_iff HQ.out.2.1).1 h).2.1;obtain⟨⟨h2,e2⟩,_⟩:=HM.out;have h3:=h1 ((keM K)[i]'(by rw[keM_len];exact h2)) (by
         rw[←keM_kall f O l (fun x hx=>(HF.out x hx).2),H2.out.2.2.2.1];exact List.getElem_mem _)
        rw[keM_at,HC.out.2.2] at h3;simp only[e2] at h3;omega
       go_upto_region 17 with fail
       refine rNh (fun W=>Below w2.heap.size w2 W) (drew_of HRB.out) (fun hHeld=>?_);refine tkC 0 HCL rfl ?_;refine tkC 1 HCL rfl ?_;refine tkC 2 HCL rfl ?_;refine tkC 3 HCL rfl ?_;refine tkC 4 HCL rfl ?_;refine tkC 5 HCL rfl ?_;refine tkC 6 HCL rfl ?_;refine tkC 7 HCL rfl ?_;refine tkC 8 HCL rfl ?_;refine wDn ?_;clear hHeld hs;have HRB2:Hid (Below w.heap.size w wr.drew):=(HRW.out.trans (H2.out.2.2.1.mono HRW.out.size)).trans ((drew_of HRB.out).mono (Nat.le_trans HRW.out.size H2.out.2.2.1.size));generalize wr.drew=WB at *;go_wp2;go_ret;first | exact⟨⟨_,rfl,(fun h=>by cases h),fun h=>absurd h HE.out⟩,HRB2.out⟩ | exact⟨Or.inl ⟨rfl,HE.out⟩,HRB2.out⟩
      ·go_upto_region 17 with fail
       refine rNh (fun W=>Below w2.heap.size w2 W) (drew_of HRB.out) (fun hHeld=>?_);refine tkC 0 HCL rfl ?_;refine tkC 1 HCL rfl ?_;refine tkC 2 HCL rfl ?_;refine tkC 3 HCL rfl ?_;refine tkC 4 HCL rfl ?_;refine tkC 5 HCL rfl ?_;refine tkC 6 HCL rfl ?_;refine tkC 7 HCL rfl ?_;refine tkC 8 HCL rfl ?_;refine wDn ?_;have HNX:Hid (∀j (h:j<K.length),j<i+1→K[j].2.1<ct):=fun j hj hji=>by
        obtain⟨⟨h2,e2⟩,h3⟩:=HM.out;rcases Nat.lt_or_ge j i with h1 | h1
        ·exact h3 j hj h1
        ·obtain rfl:j=i:=by omega
         rw[e2];omega
       clear hHeld hs;have HRB2:Hid (Below w2.heap.size w2 wr.drew):=drew_of HRB.out;clear HRB;generalize wr.drew=WB at *;go_upto_region 16 with fail
       have gm:(i:Int)<40000:=by obtain⟨⟨h,_⟩,_⟩:=HM.out;have:=HKL.out;omega
       go_wp2;go_roundw
       case rel=>obtain⟨⟨h,_⟩,_⟩:=HM.out;exact⟨i+1,h,by go_num,HNX.out,HRB2.out⟩
       case measure=>obtain⟨⟨h,_⟩,_⟩:=HM.out;simp[RowKit.intOf];omega
     ·have HNU:Hid (NumOk (l.map (·.c)) O c):=by
       refine num_ops.1 fun q hq=>?_;rw[←keM_kall f O l (fun x hx=>(HF.out x hx).2),H2.out.2.2.2.1] at hq;obtain⟨j,hj,rfl⟩:=List.getElem_of_mem hq;rw[keM_at,HC.out.2.2];exact hR.out.1 j (by rw[keM_len] at hj;exact hj) (by rw[keM_len] at hj;omega)
      have HR3:=hY2 (own_below H2.out.2.1 hR.out.2 lRf) (H2.out.2.2.1.trans (hR.out.2.mono H2.out.2.2.1.size));have hme:¬(i:Int)<vn:=by have:=HKN.out;omega
      have HKE:Hid (kall f O l=K):=H2.out.2.2.2.1;clear hlt hi hR H2 HKN;obtain⟨w3,hw3⟩:=gNz (wr);rw[hw3] at HR3 ⊢;clear hw3 wr;go_wp2_with fail;clear hme;go_loopw [8,10] (fun xk xi wr=>∃(i:Nat) (vk:Value),i≤lo.length∧xi=.int .i64 i∧vk=xk∧Hid (RowK W1.heap.size vk (K++kes c (lo.take i)) wr∧(∀j (h:j<c.ops.length),j<i→mayM c.ops[j] (c.start+(j:Int),c.actor) (lkc (subL (l.map (·.c)) O++[cutC c j]))=true)∧Below W1.heap.size W1 wr)) (fun _ xi _=>lo.length - (RowKit.intOf xi).toNat)
      case atStart=>exact⟨0,_,Nat.zero_le _,rfl,rfl,by rw[List.take_zero];simpa [kes] using HR3.out.1,fun _ _ h=>absurd h (Nat.not_lt_zero _),HR3.out.2⟩
      case round=>
       clear HR3;obtain⟨i,vk,hi,rfl,rfl,hR⟩:=hrel;have HRB:Hid (Below W1.heap.size W1 wr):=hR.out.2.2;obtain⟨-,-,-,-,y4,-⟩:=cLs (heap_below HP.out.2 HRB.out lRf);by_cases hlt:i<lo.length
       ·obtain⟨a8,c8,e8,_,_,h8,h9⟩:=id HO.out.1;obtain⟨ob,oo,ha8,hob,hcell⟩:=h9 (fun e=>by rw[e] at hlt;simp at hlt);have hua:oa=some ⟨ob,oo,none⟩:=(Value.slice.inj e8).1.trans ha8;obtain⟨⟨o,pv⟩,hq⟩:∃z:OV,lo[i]=z:=⟨_,rfl⟩
        obtain⟨hpp,hpx⟩:=h8 lo[i] (List.getElem_mem hlt);clear hpx;rw[hq] at hpp;obtain⟨pa,pn,pc,rfl⟩:∃a n c,pv=.slice a n c:=by
         obtain⟨a7,c7,e7,_⟩:=hpp;exact⟨_,_,_,e7⟩
        subst hua;have HCL:Hid (∀W,Below W1.heap.size W1 W→W.cell? ⟨ob,oo+i*13,none⟩=some (.int .i64 o.kind)∧W.cell? ⟨ob,oo+i*13+1,none⟩=some (.int .i64 o.obj.1)∧W.cell? ⟨ob,oo+i*13+2,none⟩=some (.int .i64 o.obj.2)∧W.cell? ⟨ob,oo+i*13+3,none⟩=some (.string o.key)∧W.cell? ⟨ob,oo+i*13+4,none⟩=some (.int .i64 o.elem.1)∧W.cell? ⟨ob,oo+i*13+5,none⟩=some (.int .i64 o.elem.2)∧W.cell? ⟨ob,oo+i*13+6,none⟩=some (.bool o.ins)∧W.cell? ⟨ob,oo+i*13+7,none⟩=some (.int .i64 o.val.k)∧W.cell? ⟨ob,oo+i*13+8,none⟩=some (.int .i64 o.val.n)∧W.cell? ⟨ob,oo+i*13+9,none⟩=some (.string o.val.t)∧W.cell? ⟨ob,oo+i*13+10,none⟩=some (.int .i64 o.val.o)∧W.cell? ⟨ob,oo+i*13+11,none⟩=some (.int .i64 o.val.a)∧W.cell? ⟨ob,oo+i*13+12,none⟩=some (.slice pa pn pc)∧W.cell? ⟨w.heap.size,0,none⟩=some (.int .i64 ca)∧W.cell? ⟨w.heap.size,2,none⟩=some (.int .i64 ct)∧W.cell? ⟨w.heap.size,4,none⟩=some (.slice (some ⟨ob,oo,none⟩) on oc)):=fun W hW=>by
         have hx:=heap_below HP.out.2 hW lRf;have hc:∀j,j<13→W.cell? ⟨ob,oo+i*13+j,none⟩=(opCells o (.slice pa pn pc))[j]?:=fun j hj=>by rw[hW.cell (p:=⟨ob,oo+i*13+j,none⟩) (Nat.lt_of_lt_of_le hob HRW.out.size),HRW.out.cell (p:=⟨ob,oo+i*13+j,none⟩) hob,hcell i hlt j hj,hq]
         exact⟨hc 0 (by omega),hc 1 (by omega),hc 2 (by omega),hc 3 (by omega),hc 4 (by omega),hc 5 (by omega),hc 6 (by omega),hc 7 (by omega),hc 8 (by omega),hc 9 (by omega),hc 10 (by omega),hc 11 (by omega),hc 12 (by omega),cLo hx 0,cLo hx 2,cLo hx 4⟩
        obtain⟨ctk,hctk⟩:=gNz (ct+(i:Int):Int);have hw:IntKind.i64.wrap (ct+(i:Int))=ctk:=by
         rw[←hctk];exact IntWalk.i64_in _ (by have h2:=HFW.out.2.2.2;have h4:=HO.out.2.2.2;omega)
        obtain⟨vka,vkn,vkc,rfl⟩:∃a n c,vk=.slice a n c:=by
         rcases hR.out.1.2 with⟨e,_⟩ | ⟨g9,cap,cur,e,_⟩ <;> exact⟨_,_,_,e⟩
        have HQ9:=hY3 (⟨hlt,hq⟩:(∃h:i<lo.length,lo[i]=(o,.slice pa pn pc))) hpp hctk;have HRK:Hid (RowK W1.heap.size (.slice vka vkn vkc) (K++kes c (lo.take i)) wr):=hR.out.1;have HMS:Hid (∀j (h:j<c.ops.length),j<i→mayM c.ops[j] (c.start+(j:Int),c.actor) (lkc (subL (l.map (·.c)) O++[cutC c j]))=true):=hR.out.2.1;have HD:=hY2 (drew_of HRB.out) ((Below.refl _ _).drew:Below wr.heap.size wr wr.drew);have g5:(i:Int)<on:=by have:=HO.out.2.2.1;omega
        have g6:(0:Int)≤i:=by omega
        clear e8 h8 h9 ha8 hob hcell hq hpp hctk hlt hi hR;go_upto_region 22 with fail
        clear y4;refine rNh (fun W=>Below W1.heap.size W1 W) (drew_of HRB.out) (fun hHeld=>?_);refine tkC 0 HCL rfl ?_;refine tkC 1 HCL rfl ?_;refine tkC 2 HCL rfl ?_;refine tkC 3 HCL rfl ?_;refine tkC 4 HCL rfl ?_;refine tkC 5 HCL rfl ?_;refine tkC 6 HCL rfl ?_;refine tkC 7 HCL rfl ?_;refine tkC 8 HCL rfl ?_;refine tkC 9 HCL rfl ?_;refine tkC 10 HCL rfl ?_;refine tkC 11 HCL rfl ?_;refine tkC 12 HCL rfl ?_;generalize wr.drew=wd at *;refine wpAnyH_ready (rs:=[13]) (by kernel_rfl) (by simp) (AllReadyH.cons (o:={dst:=some 11,op:=Op.alloc 131,type:=0,pos := "book.go:180",after:=#[],guard:=none}) rfl (fun K hK=>?_) AllReadyH.nil);go_simp;refine hK.out _ _ (HD.out.1.alloc HD.out.1.size _) (fun hHeld13=>?_);clear hK K;try simp only[Act.put,nm]
        have nb:(wd.alloc (.cells #[.int .i64 0,.int .i64 0,.int .i64 0,.string ⟨#[]⟩,.int .i64 0,.int .i64 0,.bool false,.int .i64 0,.int .i64 0,.string ⟨#[]⟩,.int .i64 0,.int .i64 0,.slice none 0 0,.int .i64 0,.int .i64 0] 131)).heap[wd.heap.size]?=some (.cells #[.int .i64 0,.int .i64 0,.int .i64 0,.string ⟨#[]⟩,.int .i64 0,.int .i64 0,.bool false,.int .i64 0,.int .i64 0,.string ⟨#[]⟩,.int .i64 0,.int .i64 0,.slice none 0 0,.int .i64 0,.int .i64 0] 131):=heap_alloc_new wd _;have hW:Below W1.heap.size W1 (wd.alloc (.cells #[.int .i64 0,.int .i64 0,.int .i64 0,.string ⟨#[]⟩,.int .i64 0,.int .i64 0,.bool false,.int .i64 0,.int .i64 0,.string ⟨#[]⟩,.int .i64 0,.int .i64 0,.slice none 0 0,.int .i64 0,.int .i64 0] 131)):=HD.out.1.alloc HD.out.1.size _;have hWr:Below wr.heap.size wr (wd.alloc (.cells #[.int .i64 0,.int .i64 0,.int .i64 0,.string ⟨#[]⟩,.int .i64 0,.int .i64 0,.bool false,.int .i64 0,.int .i64 0,.string ⟨#[]⟩,.int .i64 0,.int .i64 0,.slice none 0 0,.int .i64 0,.int .i64 0] 131)):=HD.out.2.alloc HD.out.2.size _;have hz1:W1.heap.size≤wd.heap.size:=HD.out.1.size;have hz2:wr.heap.size≤wd.heap.size:=HD.out.2.size;generalize wd.alloc (.cells #[.int .i64 0,.int .i64 0,.int .i64 0,.string ⟨#[]⟩,.int .i64 0,.int .i64 0,.bool false,.int .i64 0,.int .i64 0,.string ⟨#[]⟩,.int .i64 0,.int .i64 0,.slice none 0 0,.int .i64 0,.int .i64 0] 131)=WA at *;obtain⟨mb,hmb⟩:=gNz (wd.heap.size);rw[hmb] at nb hz1 hz2 ⊢;clear hmb;obtain⟨nn0,nn1,nn2,nn3,nn4,nn5,nn6,nn7,nn8,nn9,nn10,nn11,nn12,nn13,nn14,-⟩:=cLs nb;have nf:=fRz nb;have HNB:=hY5 nb hW hWr hz1 hz2;clear nb hW hWr hz1 hz2;refine wpAnyH_ready (rs:=[14]) (by kernel_rfl) (by simp) (AllReadyH.cons (o:={dst:=none,op:=Op.store 131 (Operand.tmp 11) (Operand.tmp 98),type:=0,pos := "book.go:180",after:=#[aD 13,aD 12,aP 0,aP 1,aP 2,aP 3,aP 4,aP 5,aP 6,aP 7,aP 8,aP 9,aP 10,aP 11,aP 12,aP 13],guard:=none}) rfl (fun K hK=>?_) AllReadyH.nil);go_simp;refine hK.out _ _ (set15_below HNB.out.2.1 HNB.out.2.2.2.1 (.int .i64 o.kind) (.int .i64 o.obj.1) (.int .i64 o.obj.2) (.string o.key) (.int .i64 o.elem.1) (.int .i64 o.elem.2) (.bool o.ins) (.int .i64 o.val.k) (.int .i64 o.val.n) (.string o.val.t) (.int .i64 o.val.o) (.int .i64 o.val.a) (.slice pa pn pc) (.int .i64 ctk) (.int .i64 ca)) (fun hHeld14=>?_);clear hK K;try simp only[Act.put,nm]
        refine wDn ?_;have HXf:Hid (((((((((((((((((WA.setCell ⟨mb,0,none⟩ (.int .i64 o.kind)).setCell ⟨mb,1,none⟩ (.int .i64 o.obj.1)).setCell ⟨mb,2,none⟩ (.int .i64 o.obj.2)).setCell ⟨mb,3,none⟩ (.string o.key)).setCell ⟨mb,4,none⟩ (.int .i64 o.elem.1)).setCell ⟨mb,5,none⟩ (.int .i64 o.elem.2)).setCell ⟨mb,6,none⟩ (.bool o.ins)).setCell ⟨mb,7,none⟩ (.int .i64 o.val.k)).setCell ⟨mb,8,none⟩ (.int .i64 o.val.n)).setCell ⟨mb,9,none⟩ (.string o.val.t)).setCell ⟨mb,10,none⟩ (.int .i64 o.val.o)).setCell ⟨mb,11,none⟩ (.int .i64 o.val.a)).setCell ⟨mb,12,none⟩ (.slice pa pn pc)).setCell ⟨mb,13,none⟩ (.int .i64 ctk)).setCell ⟨mb,14,none⟩ (.int .i64 ca))).heap[mb]?=some (.cells (opB o o.ins (.slice pa pn pc) ctk ca) 131)):=set15 HNB.out.1 (.int .i64 o.kind) (.int .i64 o.obj.1) (.int .i64 o.obj.2) (.string o.key) (.int .i64 o.elem.1) (.int .i64 o.elem.2) (.bool o.ins) (.int .i64 o.val.k) (.int .i64 o.val.n) (.string o.val.t) (.int .i64 o.val.o) (.int .i64 o.val.a) (.slice pa pn pc) (.int .i64 ctk) (.int .i64 ca);have hbf:Below W1.heap.size W1 (((((((((((((((WA.setCell ⟨mb,0,none⟩ (.int .i64 o.kind)).setCell ⟨mb,1,none⟩ (.int .i64 o.obj.1)).setCell ⟨mb,2,none⟩ (.int .i64 o.obj.2)).setCell ⟨mb,3,none⟩ (.string o.key)).setCell ⟨mb,4,none⟩ (.int .i64 o.elem.1)).setCell ⟨mb,5,none⟩ (.int .i64 o.elem.2)).setCell ⟨mb,6,none⟩ (.bool o.ins)).setCell ⟨mb,7,none⟩ (.int .i64 o.val.k)).setCell ⟨mb,8,none⟩ (.int .i64 o.val.n)).setCell ⟨mb,9,none⟩ (.string o.val.t)).setCell ⟨mb,10,none⟩ (.int .i64 o.val.o)).setCell ⟨mb,11,none⟩ (.int .i64 o.val.a)).setCell ⟨mb,12,none⟩ (.slice pa pn pc)).setCell ⟨mb,13,none⟩ (.int .i64 ctk)).setCell ⟨mb,14,none⟩ (.int .i64 ca)):=set15_below HNB.out.2.1 HNB.out.2.2.2.1 (.int .i64 o.kind) (.int .i64 o.obj.1) (.int .i64 o.obj.2) (.string o.key) (.int .i64 o.elem.1) (.int .i64 o.elem.2) (.bool o.ins) (.int .i64 o.val.k) (.int .i64 o.val.n) (.string o.val.t) (.int .i64 o.val.o) (.int .i64 o.val.a) (.slice pa pn pc) (.int .i64 ctk) (.int .i64 ca)
        have HRK3:Hid (RowK W1.heap.size (.slice vka vkn vkc) (K++kes c (lo.take i)) (((((((((((((((WA.setCell ⟨mb,0,none⟩ (.int .i64 o.kind)).setCell ⟨mb,1,none⟩ (.int .i64 o.obj.1)).setCell ⟨mb,2,none⟩ (.int .i64 o.obj.2)).setCell ⟨mb,3,none⟩ (.string o.key)).setCell ⟨mb,4,none⟩ (.int .i64 o.elem.1)).setCell ⟨mb,5,none⟩ (.int .i64 o.elem.2)).setCell ⟨mb,6,none⟩ (.bool o.ins)).setCell ⟨mb,7,none⟩ (.int .i64 o.val.k)).setCell ⟨mb,8,none⟩ (.int .i64 o.val.n)).setCell ⟨mb,9,none⟩ (.string o.val.t)).setCell ⟨mb,10,none⟩ (.int .i64 o.val.o)).setCell ⟨mb,11,none⟩ (.int .i64 o.val.a)).setCell ⟨mb,12,none⟩ (.slice pa pn pc)).setCell ⟨mb,13,none⟩ (.int .i64 ctk)).setCell ⟨mb,14,none⟩ (.int .i64 ca))):=own_below HRK.out (set15_below HNB.out.2.2.1 HNB.out.2.2.2.2 (.int .i64 o.kind) (.int .i64 o.obj.1) (.int .i64 o.obj.2) (.string o.key) (.int .i64 o.elem.1) (.int .i64 o.elem.2) (.bool o.ins) (.int .i64 o.val.k) (.int .i64 o.val.n) (.string o.val.t) (.int .i64 o.val.o) (.int .i64 o.val.a) (.slice pa pn pc) (.int .i64 ctk) (.int .i64 ca)) lRf;clear nn0 nn1 nn2 nn3 nn4 nn5 nn6 nn7 nn8 nn9 nn10 nn11 nn12 nn13 nn14 nf HNB HRK hHeld hHeld13 hHeld14 HRB HD hw;generalize (((((((((((((((WA.setCell ⟨mb,0,none⟩ (.int .i64 o.kind)).setCell ⟨mb,1,none⟩ (.int .i64 o.obj.1)).setCell ⟨mb,2,none⟩ (.int .i64 o.obj.2)).setCell ⟨mb,3,none⟩ (.string o.key)).setCell ⟨mb,4,none⟩ (.int .i64 o.elem.1)).setCell ⟨mb,5,none⟩ (.int .i64 o.elem.2)).setCell ⟨mb,6,none⟩ (.bool o.ins)).setCell ⟨mb,7,none⟩ (.int .i64 o.val.k)).setCell ⟨mb,8,none⟩ (.int .i64 o.val.n)).setCell ⟨mb,9,none⟩ (.string o.val.t)).setCell ⟨mb,10,none⟩ (.int .i64 o.val.o)).setCell ⟨mb,11,none⟩ (.int .i64 o.val.a)).setCell ⟨mb,12,none⟩ (.slice pa pn pc)).setCell ⟨mb,13,none⟩ (.int .i64 ctk)).setCell ⟨mb,14,none⟩ (.int .i64 ca))=wf at *;have HBF:Hid (Below W1.heap.size W1 wf):=hbf;clear hbf;have hk9:IsKn wf (.slice vka vkn vkc) (K++kes c (lo.take i)):=HRK3.out.kn (by
         have h1:=HKL.out;have h2:=HO.out.2.2.2;rw[List.length_append,kes_len,List.length_take];omega) (fun q hq=>by
         rcases List.mem_append.1 hq with hq | hq
         ·rw[←HKE.out] at hq;obtain⟨x,hx,hq2⟩:=kall_mem hq;obtain⟨_,_,_,_,_,h8,_⟩:=(HF.out x hx).1;exact((h8 _ hq2).1.below HRW.out).below (HBF.out.mono lRf)
         ·obtain⟨j,hj,rfl⟩:=List.getElem_of_mem hq;rw[kes_at];obtain⟨_,_,_,_,_,h8,_⟩:=HO.out.1;exact((h8 _ (List.mem_of_mem_take (List.getElem_mem _))).1.below HRW.out).below HBF.out)
        have EM:=rMay_any o pa pn pc (ctk,ca) (.slice vka vkn vkc) (K++kes c (lo.take i)) wf hk9 ((HQ9.out.2.1.below HRW.out).below HBF.out);obtain⟨mb9,hmb9⟩:=gNz (mayM o (ctk,ca) (lkK (keM (K++kes c (lo.take i)))):Bool);rw[hmb9] at EM;have HMB:Hid (∃h:i<c.ops.length,mayM c.ops[i] (c.start+(i:Int),c.actor) (lkc (subL (l.map (·.c)) O++[cutC c i]))=mb9):=by
         obtain⟨⟨h1,e1⟩,_,e3⟩:=HQ9.out;have hl9:i<c.ops.length:=by rw[←HO.out.2.1,List.length_map];exact h1
         refine⟨hl9,?_⟩;rw[←hmb9,←HKE.out,known_own rfl (fun x hx=>(HF.out x hx).2) HO.out.2.1,HC.out.1,HC.out.2.2,e3];have:c.ops[i]=o:=by
          have h2:(lo.map (·.1))[i]'(by rw[List.length_map];exact h1)=o:=by rw[List.getElem_map,e1]
          rw[←h2];congr 1;exact HO.out.2.1.symm
         rw[this]
        clear hk9 hmb9;obtain⟨xx0,xx1,xx2,xx3,xx4,xx5,xx6,xx7,xx8,xx9,xx10,xx11,xx12,xx13,xx14,-⟩:=cLs HXf.out;go_wp2_with fail;go_fit EM;rintro e w4 ⟨rfl,b4⟩;clear EM xx0 xx1 xx2 xx3 xx4 xx5 xx6 xx7 xx8 xx9 xx10 xx11 xx12 xx13 xx14;have HB4:Hid (Below W1.heap.size W1 w4):=HBF.out.trans (b4.mono HBF.out.size);have HR4:=hY2 (own_below HRK3.out b4 lRf) (heap_below HXf.out b4 lRf);clear HBF HRK3 HXf b4;cases mb9 with
        | false=>
         have HE:Hid (¬FitC (l.map (·.c)) c):=fun h=>by
          obtain⟨h1,e1⟩:=HMB.out;have:=((fitC_iff HQ.out.2.1).1 h).2.2 i h1;rw[e1] at this;cases this
         clear HMB;go_wp2;go_ret;first | exact⟨⟨_,rfl,(fun h=>by cases h),fun h=>absurd h HE.out⟩,HRW.out.trans (HB4.out.mono HRW.out.size)⟩ | exact⟨Or.inl ⟨rfl,HE.out⟩,HRW.out.trans (HB4.out.mono HRW.out.size)⟩
        | true=>
         have HMS2:Hid (∀j (h:j<c.ops.length),j<i+1→mayM c.ops[j] (c.start+(j:Int),c.actor) (lkc (subL (l.map (·.c)) O++[cutC c j]))=true):=fun j hj hji=>by
          rcases Nat.lt_or_ge j i with h1 | h1
          ·exact HMS.out j hj h1
          ·obtain rfl:j=i:=by omega
           exact HMB.out.2
         clear HMS HMB;go_upto_region 26 with fail
         have b9:Below w4.heap.size w4 (w4.alloc (.cells (opB o o.ins (.slice pa pn pc) ctk ca) 131)):=bAl w4 _;obtain⟨v9,U9,happ,row9,gr9⟩:=run_appK 100 (w4.alloc (.cells (opB o o.ins (.slice pa pn pc) ctk ca) 131)) W1.heap.size (Nat.le_trans HB4.out.size b9.size) (.slice vka vkn vkc) (K++kes c (lo.take i)) o pa pn pc (ctk,ca) (own_below HR4.out.1 b9 lRf) (by
          have h1:=HKL.out;have h2:=HO.out.2.2.2;rw[List.length_append,kes_len,List.length_take];omega) w4.heap.size (heap_alloc_new w4 _)
         have HRB3:Hid (Below W1.heap.size W1 U9):=(HB4.out.trans (b9.mono HB4.out.size)).grown gr9 (HB4.out.trans (b9.mono HB4.out.size)).size (fun j e=>(HR4.out.1.lt j e).1);have HNX:Hid (RowK W1.heap.size v9 (K++kes c (lo.take (i+1))) U9):=by
          show RowK _ _ _ _;obtain⟨⟨h1,e1⟩,_,e3⟩:=HQ9.out;rw[kes_snoc c lo i h1,←List.append_assoc,e1,HC.out.1,HC.out.2.2,e3];exact row9
         obtain⟨xx0,xx1,xx2,xx3,xx4,xx5,xx6,xx7,xx8,xx9,xx10,xx11,xx12,xx13,xx14,-⟩:=cLs HR4.out.2;clear b9 row9 gr9 HR4;go_upto_region 21 with(first | (at_builtin;refine wp_append rfl _ _ 100 rfl _ _ _ _ rfl rfl happ ?_))
         clear xx0 xx1 xx2 xx3 xx4 xx5 xx6 xx7 xx8 xx9 xx10 xx11 xx12 xx13 xx14 happ;have gm:(i:Int)<40:=by obtain⟨⟨h,_⟩,_⟩:=HQ9.out;have:=HO.out.2.2.2;omega
         go_wp2;go_roundw
         case rel=>obtain⟨⟨h,_⟩,_⟩:=HQ9.out;exact⟨i+1,v9,h,by go_num,rfl,HNX.out,HMS2.out,HRB3.out⟩
         case measure=>obtain⟨⟨h,_⟩,_⟩:=HQ9.out;simp[RowKit.intOf];omega
       ·have hme:¬(i:Int)<on:=by have:=HO.out.2.2.1;omega
        have HE:Hid (FitC (l.map (·.c)) c∧Below w.heap.size w wr):=⟨(fitC_iff HQ.out.2.1).2 ⟨HSQ.out,HNU.out,fun j hj=>hR.out.2.1 j hj (by
         have h1:=congrArg List.length HO.out.2.1;rw[List.length_map] at h1;omega)⟩,HRW.out.trans (HRB.out.mono HRW.out.size)⟩
        clear hlt hi hR;go_wp2;go_ret;first | exact⟨⟨_,rfl,(fun _=>HE.out.1),fun _=>rfl⟩,HE.out.2⟩ | exact⟨Or.inr ⟨rfl,HE.out.1⟩,HE.out.2⟩
end Go.Proofs.YtamhlgflbacjgaaGreat
