/-
  What is proved: as each theorem says.
  Conditions: as each theorem says.
-/
import Derived.Test.YtamhlgflbacjgaaGreatF00
import Derived.Test.YtamhlgflbacjgaaGreatF43
import Derived.Test.YtamhlgflbacjgaaGreatF44
import Derived.Test.YtamhlgflbacjgaaGreatF38
import Derived.Test.YtamhlgflbacjgaaGreatF31
set_option maxRecDepth 100000
set_option maxHeartbeats 16000000
namespace Go.Proofs.YtamhlgflbacjgaaGreat
open Go.RowKit Go.Sort
theorem rChanges_any (n:Nat) (sv:Value) (st:List (List Int)) (w:World) (hn:1≤n∧n≤9) (hs:IsSteps w sv st):
 Calls Tryz.prog 5 #[.int .i64 (n:Int),sv] w fun e w'=>ChangesP w e w':=by
 obtain⟨sa,scap,hsv,hsc,hsp⟩:=id hs;obtain⟨sn,hsn⟩:=gNz (st.length);rw[hsn] at hsv hsc;subst hsv;have HS0:Hid (IsSteps w (.slice sa sn scap) st∧st.length=sn):=⟨hs,hsn⟩
 have HNN:Hid (1≤n∧n≤9):=hn;obtain⟨post,hpost⟩:∃post:Ending→World→Prop,post=fun e w'=>ChangesP w e w':=⟨_,rfl⟩
 have HPO:Hid (post=fun e w'=>ChangesP w e w'):=hpost;rw[←hpost];clear hpost hs hsc hsp hsn hn;go_enter Tryz.func5,Tryz.ntmps5
 go_upto_region 3 with fail
 have HC0:Hid (CG w [] (.slice none 0 0) (.slice (some ⟨w.heap.size,0,none⟩) 1 1) [(0,0)] [] (w.alloc (.cells #[.int .i64 0,.int .i64 0] 49))):=by
  have b0:Below w.heap.size w (w.alloc (.cells #[.int .i64 0,.int .i64 0] 49)):=bAl _ _;refine⟨⟨⟨w.heap.size,fun b=>b=w.heap.size⟩,lRf,(fun b h=>h.elim (fun h=>by cases h) (fun h=>h.elim (fun h=>(Option.some.inj h).symm) (fun h=>by cases h))),⟨(fun _ h=>by cases h),(fun _ h=>by cases h),(fun _ h=>by cases h),(fun b h=>by rw[h];simp),List.Pairwise.nil,(fun _ h=>by cases h),(fun _ h=>by cases h),b0.size⟩⟩,(fun _ h=>by cases h),(fun _ h=>by cases h),World.ownsRow_nil _ _ _ _,?_,(fun q hq=>by rw[List.mem_singleton.1 hq];unfold I64;dsimp only;omega),b0⟩;exact World.ownsRow_lit (base:=w.heap.size) (e:=49) (size:=2) w #[.int .i64 0,.int .i64 0] 1 lRf (by unfold maxLen;omega) rfl
 generalize w.alloc (.cells #[.int .i64 0,.int .i64 0] 49)=W0 at *;go_wp2_with fail;go_loopw [5,7] (fun hh i wr=>∃(k:Nat) (HS:List HR) (hv:Value),k≤n∧i=.int .i64 (k:Int)∧hv=hh∧Hid (HS.length=k∧CG w HS hv (.slice (some ⟨w.heap.size,0,none⟩) 1 1) [(0,0)] [] wr)) (fun _ i _=>n - (RowKit.intOf i).toNat)
 case atStart=>exact⟨0,[],_,Nat.zero_le _,rfl,rfl,rfl,HC0.out⟩
 case round=>
  obtain⟨k,HS,hv,hk,rfl,rfl,HR⟩:=hrel;by_cases hlt:k<n
  ·have g1:(k:Int)<n:=by omega
   have hw1:IntKind.i64.wrap ((k:Int)+1)=(k:Int)+1:=IntWalk.i64_in _ (by have:=HNN.out;omega);have HLT:Hid (k<n):=hlt;have E1:=rNew_any ((k:Int)+1) wr;clear hlt hk;go_wp2_with fail;go_fit E1;rintro e w1 ⟨rfl,n1,n2,b1⟩;have bA:Below w1.heap.size w1 (w1.alloc (.cells #[.pointer (some ⟨wr.heap.size+1,0,none⟩)] 51)):=bAl _ _;have hrA:=own_below (own_below HR.out.2.hrow b1 lRf) bA lRf;have hwb:w.heap.size≤wr.heap.size:=HR.out.2.bel.size;obtain⟨v9,U9,happ,row9,gr9,hv9⟩:=app_gen ofHs 47 (w1.alloc (.cells #[.pointer (some ⟨wr.heap.size+1,0,none⟩)] 51)) w.heap.size (Nat.le_trans hwb (Nat.le_trans b1.size bA.size)) hv (.slice (some ⟨w1.heap.size,0,none⟩) 1 1) _ 1 _ [.pointer (some ⟨wr.heap.size+1,0,none⟩)] hrA (UAt.box (k:=1) (heap_alloc_new w1 _) rfl) rfl (fun y hy=>by rw[List.mem_singleton.1 hy];rfl) (by have:=HR.out.1;have:=HLT.out;have:=HNN.out;omega);have HNX:Hid (∃HS',HS'.length=k+1∧CG w HS' v9 (.slice (some ⟨w.heap.size,0,none⟩) 1 1) [(0,0)] [] U9):=by
    obtain⟨lo,l1,l2,H⟩:=HR.out.2.hands;have H2:=(H.more ((k:Int)+1) (by have:=HLT.out;have:=HNN.out;omega) n1 n2 b1).below bA;have K:KpS (fun b=>lo.D b∨(w1.alloc (.cells #[.pointer (some ⟨wr.heap.size+1,0,none⟩)] 51)).heap.size≤b) (w1.alloc (.cells #[.pointer (some ⟨wr.heap.size+1,0,none⟩)] 51)) U9:=KpS.grown (fun b e=>Or.inl (l2 b (Or.inl e))) gr9;have H3:=H2.wide (lo':=⟨lo.n,fun b=>v9.ownBlock=some b∨(Value.slice (some ⟨w.heap.size,0,none⟩) 1 1).ownBlock=some b⟩) rfl K (fun b hb=>by
     rcases hb with hb | hb
     ·refine⟨?_,(row9.lt b hb).2⟩;rcases hv9 with e | e
      ·exact Or.inl (l2 b (Or.inl (by rw[←e];exact hb)))
      ·rw[e] at hb;exact Or.inr (Nat.le_of_eq (Option.some.inj hb))
     ·exact⟨Or.inl (l2 b (Or.inr (Or.inl hb))),Nat.lt_of_lt_of_le (H2.dl b (l2 b (Or.inr (Or.inl hb)))) K.size⟩)
    have ho:=row_other (own_below (own_below HR.out.2.orow b1 lRf) bA lRf) hrA (by decide) gr9;refine⟨_,?_,⟨⟨⟨lo.n,fun b=>v9.ownBlock=some b∨(Value.slice (some ⟨w.heap.size,0,none⟩) 1 1).ownBlock=some b⟩,l1,(fun b h=>h.imp id fun h=>h.elim id fun h=>by cases h),H3⟩,(fun b h=>by cases h),fun y hy=>?_,?_,ho,HR.out.2.nums,?_⟩⟩
    ·rw[List.length_append,List.length_singleton,HR.out.1]
    ·rcases List.mem_append.1 hy with hy | hy
     ·exact HR.out.2.ok y hy
     ·rw[List.mem_singleton.1 hy];exact hok_new _ _ _
    ·rw[List.length_append,List.length_singleton];have e:ptrs (HS++[⟨wr.heap.size+1,wr.heap.size,(k:Int)+1,[],[],.slice none 0 0,.slice none 0 0,.slice none 0 0,[]⟩])=ptrs HS++[.pointer (some ⟨wr.heap.size+1,0,none⟩)]:=by unfold ptrs;rw[List.map_append];rfl
     rw[e];exact row9
    ·exact(HR.out.2.bel.trans ((b1.trans (bA.mono b1.size)).mono hwb)).grown gr9 (Nat.le_trans hwb (Nat.le_trans b1.size bA.size)) (fun t e=>(hrA.lt t e).1)
   clear hv9 hrA row9 gr9 bA hwb n1 n2 b1;go_upto_region 5 with(first | (at_builtin;refine wp_app rfl _ _ 47 rfl _ _ _ rfl rfl happ ?_))
   go_wp2;go_roundw
   case rel=>
    obtain⟨HS',h1,h2⟩:=HNX.out;exact⟨k+1,HS',v9,HLT.out,by go_num,rfl,h1,h2⟩
   case measure=>have:=HLT.out;simp[RowKit.intOf];omega
  ·have g1:¬(k:Int)<n:=by omega
   have hkn:k=n:=by omega
   have HRN:Hid (HS.length=n∧CG w HS hv (.slice (some ⟨w.heap.size,0,none⟩) 1 1) [(0,0)] [] wr):=by rw[←hkn];exact HR.out
   clear hlt hk hkn HR;go_wp2_with fail;go_loopw [6,9] (fun oo i wr=>∃(k:Nat) (HS:List HR) (ov:Value) (O:List Pr),k≤sn∧i=.int .i64 (k:Int)∧ov=oo∧Hid (HS.length=n∧O≠[]∧O.length≤k+1∧k≤60∧CG w HS hv ov O [] wr)) (fun _ i _=>sn - (RowKit.intOf i).toNat)
   case atStart=>exact⟨0,HS,_,[(0,0)],Nat.zero_le _,rfl,rfl,HRN.out.1,by simp,by simp,by omega,HRN.out.2⟩
   case round=>
    clear HRN g1;obtain⟨k,HS,ov,O,hk,rfl,rfl,HR⟩:=hrel;obtain⟨cb,hcb⟩:=gNz (decide (k<sn∧k<60):Bool);obtain⟨wy,hwy⟩:∃x:World,x=wr:=⟨wr,rfl⟩
    subst hwy;go_upto_region 9 with fail
    go_cut [40] from 33 to 39 (fun b wx=>b=.bool cb∧wx=wy)
    case first=>
     have HCB:Hid (decide (k<sn∧k<60)=cb):=hcb;by_cases h1:k<sn
     ·have g1:(k:Int)<sn:=by omega
      by_cases h2:k<60
      ·have g6:decide ((k:Int)<60)=true:=decide_eq_true (by omega);have HT:Hid (true=cb):=by show _=_;rw[←HCB.out,decide_eq_true ⟨h1,h2⟩]
       clear h1 h2 hk hcb;go_wp2;go_meet
       case rel=>exact⟨by rw[←HT.out],rfl⟩
      ·have g6:decide ((k:Int)<60)=false:=decide_eq_false (by omega);have HT:Hid (false=cb):=by show _=_;rw[←HCB.out,decide_eq_false (fun h=>h2 h.2)]
       clear h1 h2 hk hcb;go_wp2;go_meet
       case rel=>exact⟨by rw[←HT.out],rfl⟩
     ·have g1:¬(k:Int)<sn:=by omega
      have HT:Hid (false=cb):=by show _=_;rw[←HCB.out,decide_eq_false (fun h=>h1 h.1)]
      clear h1 hk hcb;go_wp2;go_meet
      case rel=>exact⟨by rw[←HT.out],rfl⟩
    case rest=>
     obtain⟨rfl,hwc⟩:=hcut;subst hwc;obtain⟨wr,hwr⟩:∃x:World,x=wc:=⟨wc,rfl⟩
     subst hwr;by_cases hlt:k<sn∧k<60
     ·have hcb2:cb=true:=by rw[←hcb];exact decide_eq_true hlt
      subst hcb2;have g1:(k:Int)<sn:=by omega
      obtain⟨sa',scap',hsv,_,hsp⟩:=id HS0.out.1;have hkst:k<st.length:=by have:=HS0.out.2;omega
      obtain⟨b,off,hsa,hsb,hsc⟩:=hsp (fun e=>by rw[e] at hkst;simp at hkst);have hsa2:sa=some ⟨b,off,none⟩:=(Value.slice.inj hsv).1.trans hsa;obtain⟨su,hsu,hsn⟩:=hsc k hkst;obtain⟨l,hl⟩:=gNz (st[k]'hkst);rw[hl] at hsn;subst hsa2;have x0:wr.cell? ⟨b,off+k,none⟩=some su:=(HR.out.2.2.2.2.bel.cell (p:=⟨b,off+k,none⟩) hsb).trans hsu;obtain⟨ua,uc,husl,_⟩:=id hsn;obtain⟨un,hun⟩:=gNz (l.length);rw[hun] at husl;subst husl;have HSU:Hid (IsNums w (.slice ua un uc) l):=hsn;have g2:(0:Int)≤k:=by omega
      have HLT:Hid (k<sn∧k<60):=hlt;obtain⟨ha,hc,hhv⟩:=own_form HR.out.2.2.2.2.hrow;have hHn:HS.length=n:=HR.out.1;rw[hHn] at hhv;subst hhv;obtain⟨oa,oc,hov⟩:=own_form HR.out.2.2.2.2.orow;obtain⟨on,hon⟩:=gNz (O.length);rw[hon] at hov;subst hov;have HON:Hid (O.length=on∧1≤on∧on≤61):=by
       have h1:=HR.out.2.1;have h2:=HR.out.2.2.1;have h3:=HR.out.2.2.2.1;have h4:O.length≠0:=fun e=>h1 (List.length_eq_zero_iff.1 e);refine⟨hon,by omega,by omega⟩
      clear hk hlt hsv hsp hkst hsa hsb hsc hsu hl hun hsn hHn hon;go_upto_region 12 with fail
      clear x0 g1 g2;have EA:=rAt2_any (.slice ua un uc) l 0 wr (HSU.out.below HR.out.2.2.2.2.bel) (by omega);change Calls _ _ #[.slice ua un uc,.int .i64 0] _ _ at EA;go_wp2_with fail;go_fit EA;rintro e w2 ⟨⟨z0,rfl,_⟩,b2⟩;have EP:=rPick_any z0 n w2 (by have:=HNN.out;omega) (by have:=HNN.out;omega);clear EA;go_wp2_with fail;go_fit EP;rintro e w3 ⟨⟨z1,rfl,hz1,hz2⟩,b3⟩;obtain⟨m,rfl⟩:=Int.eq_ofNat_of_zero_le hz1;have HW3:Hid (Below wr.heap.size wr w3):=b2.trans (b3.mono b2.size);have HC3:Hid (CG w HS (.slice ha n hc) (.slice oa on oc) O [] w3):=HR.out.2.2.2.2.next HW3.out;obtain⟨hbk,x,rfl,hbl,hx,hcell⟩:=hand_at (m:=m) (n:=n) (by have:=HC3.out.hrow;exact this) (by have:=HR.out.1;omega);have HX:Hid (HS[m]?=some x):=hx;have m1:(m:Int)<n:=hz2;have m2:(0:Int)≤m:=hz1;clear EP b2 b3 hz1 hz2 hbl hx;go_upto_region 13 with fail
      clear hcell m1 m2;have EA:=rAt2_any (.slice ua un uc) l 2 w3 (HSU.out.below HC3.out.bel) (by omega);change Calls _ _ #[.slice ua un uc,.int .i64 2] _ _ at EA;go_wp2_with fail;go_fit EA;rintro e w4 ⟨⟨z2,rfl,_⟩,b4⟩;have EP:=rPick_any z2 on w4 (by have:=HON.out;omega) (by have:=HON.out;omega);clear EA;go_wp2_with fail;go_fit EP;rintro e w5 ⟨⟨z3,rfl,hz1,hz2⟩,b5⟩;obtain⟨q,rfl⟩:=Int.eq_ofNat_of_zero_le hz1;have HC5:Hid (CG w HS (.slice (some ⟨hbk,0,none⟩) n hc) (.slice oa on oc) O [] w5):=HC3.out.next (b4.trans (b5.mono b4.size));have hqO:q<O.length:=by have:=HON.out;omega
      obtain⟨y,hy⟩:=gNz (O[q]:Pr);obtain⟨obk,rfl,_,j0,j1⟩:=own_id HC5.out.orow hqO hy;have HYN:Hid (I64 y.1∧I64 y.2):=by rw[←hy];exact HC5.out.nums _ (List.getElem_mem hqO)
      have m1:(q:Int)<on:=hz2;have m2:(0:Int)≤q:=hz1;clear EP b4 b5 hz1 hz2 hqO hy;go_upto_region 14 with fail
      clear j0 j1 m1 m2;have bO:Below w5.heap.size w5 (w5.alloc (.cells #[.int .i64 y.1,.int .i64 y.2] 49)):=bAl _ _;have HO6:Hid (CG w HS (.slice (some ⟨hbk,0,none⟩) n hc) (.slice (some ⟨obk,0,none⟩) on oc) O [] (w5.alloc (.cells #[.int .i64 y.1,.int .i64 y.2] 49))∧(w5.alloc (.cells #[.int .i64 y.1,.int .i64 y.2] 49)).heap[w5.heap.size]?=some (.cells #[.int .i64 y.1,.int .i64 y.2] 49)):=⟨HC5.out.next bO,heap_alloc_new w5 _⟩
      clear bO HC5 HC3 HW3;generalize w5.alloc (.cells #[.int .i64 y.1,.int .i64 y.2] 49)=w6 at *;generalize w5.heap.size=ob at *;go_upto_region 15 with fail
      have bW:Below w6.heap.size w6 (w6.alloc (.cells #[.int .i64 0,.int .i64 0] 49)):=bAl _ _;have HO7:Hid (CG w HS (.slice (some ⟨hbk,0,none⟩) n hc) (.slice (some ⟨obk,0,none⟩) on oc) O [w6.heap.size] (w6.alloc (.cells #[.int .i64 0,.int .i64 0] 49))∧(w6.alloc (.cells #[.int .i64 0,.int .i64 0] 49)).heap[ob]?=some (.cells #[.int .i64 y.1,.int .i64 y.2] 49)∧(w6.alloc (.cells #[.int .i64 0,.int .i64 0] 49)).heap[w6.heap.size]?=some (.cells #[.int .i64 0,.int .i64 0] 49)):=⟨HO6.out.1.box _,heap_below HO6.out.2 bW lRf,heap_alloc_new w6 _⟩
      have HOWB:ob≠w6.heap.size:=Nat.ne_of_lt (lt_of_heap HO6.out.2);have HOWH:Hid (ob≠w6.heap.size):=HOWB;clear bW HO6 HOWB;generalize w6.alloc (.cells #[.int .i64 0,.int .i64 0] 49)=w7 at *;generalize w6.heap.size=wb at *;have EA:=rAt2_any (.slice ua un uc) l 1 w7 (HSU.out.below HO7.out.1.bel) (by omega);change Calls _ _ #[.slice ua un uc,.int .i64 1] _ _ at EA;go_wp2_with fail;go_fit EA;rintro e w8 ⟨⟨z4,rfl,_⟩,b8⟩;have EP:=rPick_any z4 14 w8 (by omega) (by omega);clear EA;go_wp2_with fail;go_fit EP;rintro e w9 ⟨⟨z5,rfl,hz1,hz2⟩,b9⟩;have b79:=b8.trans (b9.mono b8.size);have HO9:Hid (CG w HS (.slice (some ⟨hbk,0,none⟩) n hc) (.slice (some ⟨obk,0,none⟩) on oc) O [wb] w9∧w9.heap[ob]?=some (.cells #[.int .i64 y.1,.int .i64 y.2] 49)∧w9.heap[wb]?=some (.cells #[.int .i64 0,.int .i64 0] 49)):=⟨HO7.out.1.next b79,heap_below HO7.out.2.1 b79 lRf,heap_below HO7.out.2.2 b79 lRf⟩
      clear EP b8 b9 b79 HO7;go_upto_block 4 with fail
      have HOW:Hid (ob≠wb):=HOWH.out;go_cut [] from 66 to 192 (fun wx=>∃(HS':List Go.Proofs.YtamhlgflbacjgaaGreat.HR) (r:Pr),Hid (HS'.length=n∧CG w HS' (.slice (some ⟨hbk,0,none⟩) n hc) (.slice (some ⟨obk,0,none⟩) on oc) O [wb] wx∧wx.heap[wb]?=some (.cells #[.int .i64 r.1,.int .i64 r.2] 49)∧I64 r.1∧I64 r.2))
      case first=>
       have hz:(z5=0∨z5=1∨z5=2∨z5=3∨z5=4∨z5=5∨z5=6)∨(z5=7∨z5=8∨z5=9∨z5=10∨z5=11∨z5=12∨z5=13):=by omega
       clear hz1 hz2;rcases hz with hz | hz
       ·refine swA_any w w9 HS hbk n hc obk on oc wb ob m un uc O y l ua x z5 _ _ hz HO9 HSU HX ⟨HR.out.1,trivial⟩ HYN HOW HNN ?_
        intros
        rename_i wx hrel;go_wp2_with fail;go_meet
        case rel=>exact hrel
       ·refine swB_any w w9 HS hbk n hc obk on oc wb ob m un uc O y l ua x z5 _ _ hz HO9 HSU HX ⟨HR.out.1,trivial⟩ HYN HOW HNN ?_
        intros
        rename_i wx hrel;go_wp2_with fail;go_meet
        case rel=>exact hrel
      case rest=>
       obtain⟨HS',r,HQ⟩:=hcut;obtain⟨c0,c1,-⟩:=cLs HQ.out.2.2.1;have ER:=rRoot_any r.1 r.2 wc;obtain⟨rt,hrt⟩:=gNz (decide (r.1=0∧r.2=0):Bool);rw[hrt] at ER;clear hrt hz1 hz2;go_wp2_with fail;go_fit ER;rintro e w11 ⟨rfl,b11⟩;have HQ2:Hid (HS'.length=n∧CG w HS' (.slice (some ⟨hbk,0,none⟩) n hc) (.slice (some ⟨obk,0,none⟩) on oc) O [] w11∧w11.heap[wb]?=some (.cells #[.int .i64 r.1,.int .i64 r.2] 49)∧I64 r.1∧I64 r.2):=⟨HQ.out.1,(HQ.out.2.1.next b11).forget,heap_below HQ.out.2.2.1 b11 lRf,HQ.out.2.2.2⟩
       clear b11 ER HQ c0 c1;have HK1:Hid (O≠[]∧O.length≤k+1):=⟨HR.out.2.1,HR.out.2.2.1⟩
       have HI9:Hid ((k:Int)<1000):=by have:=HLT.out;show _<_;omega
       cases rt with
       | true=>
        go_upto_region 10 with fail
        have i3:=HI9.out;go_wp2;go_roundw
        case rel=>exact⟨k+1,HS',_,O,HLT.out.1,by go_num,rfl,HQ2.out.1,HK1.out.1,by have:=HK1.out.2;omega,by have:=HLT.out.2;omega,HQ2.out.2.1⟩
        case measure=>have:=HLT.out;simp[RowKit.intOf];omega
       | false=>
        have bA:Below w11.heap.size w11 (w11.alloc (.cells #[.int .i64 r.1,.int .i64 r.2] 49)):=bAl _ _;have CA:=HQ2.out.2.1.next bA;have hor:=CA.orow;have hOn:O.length=on:=HON.out.1;obtain⟨v9,U9,happ,row9,gr9,hv9⟩:=app_gen ofIds 50 (w11.alloc (.cells #[.int .i64 r.1,.int .i64 r.2] 49)) w.heap.size CA.bel.size (.slice (some ⟨obk,0,none⟩) on oc) (.slice (some ⟨w11.heap.size,0,none⟩) 1 1) _ 1 _ [.int .i64 r.1,.int .i64 r.2] hor (UAt.box (k:=2) (heap_alloc_new w11 _) rfl) rfl (idc_one [r]) (by have:=HON.out;omega);have HNEW:Hid (CG w HS' (.slice (some ⟨hbk,0,none⟩) n hc) v9 (O++[r]) [] U9):=CA.obj gr9 (by show World.ownsRow _ _ _ _ _ _ _;rw[idc_app,List.length_append];exact row9) hv9 HQ2.out.2.2.2;obtain⟨c0,c1,-⟩:=cLs HQ2.out.2.2.1;clear bA CA hor hOn row9 gr9 hv9;go_upto_region 10 with(first | (at_builtin;refine wp_app rfl _ _ 50 rfl _ _ _ rfl rfl happ ?_))
        clear happ c0 c1;have i3:=HI9.out;go_wp2;go_roundw
        case rel=>exact⟨k+1,HS',v9,O++[r],HLT.out.1,by go_num,rfl,HQ2.out.1,by simp,by have:=HK1.out.2;rw[List.length_append,List.length_singleton];omega,by have:=HLT.out.2;omega,HNEW.out⟩
        case measure=>have:=HLT.out;simp[RowKit.intOf];omega
     ·have hcb2:cb=false:=by rw[←hcb];exact decide_eq_false hlt
      subst hcb2;clear hcb;clear hlt;have HRX:Hid (HS.length=n∧CG w HS hv ov O [] wr):=⟨HR.out.1,HR.out.2.2.2.2⟩
      clear HR hk;obtain⟨ha,hc,hhv⟩:=own_form HRX.out.2.hrow;rw[HRX.out.1] at hhv;subst hhv;go_upto_region 45 with fail
      have bB:Below wr.heap.size wr (wr.alloc (.cells #[.slice none 0 0,.slice none 0 0] 73)):=bAl _ _;have HF0:Hid (FB wr wr.heap.size [] [] (.slice none 0 0) (.slice none 0 0) (wr.alloc (.cells #[.slice none 0 0,.slice none 0 0] 73))):=⟨bB,lRf,heap_alloc_new wr _,World.ownsRow_nil _ _ _ _,World.ownsRow_nil _ _ _ _,(fun _ e=>by cases e),(fun _ e=>by cases e),(fun _ e=>by cases e),(fun _ h=>by cases h),RI.nil,FInv.nil⟩
      generalize wr.alloc (.cells #[.slice none 0 0,.slice none 0 0] 73)=w1 at *;obtain⟨gb,hgb⟩:=gNz (wr.heap.size);have HF1:Hid (FB wr gb [] [] (.slice none 0 0) (.slice none 0 0) w1):=by rw[←hgb];exact HF0.out
      rw[hgb];clear bB HF0 hgb;obtain⟨wz,hwz⟩:∃x:World,x=wr:=⟨wr,rfl⟩
      subst hwz;go_wp2_with fail;go_loopw [16] (fun i wx=>∃j:Nat,j≤n∧i=.int .i64 (j:Int)∧Hid (∃EL EW vl vw,FB wz gb EL EW vl vw wx)) (fun i _=>n - (RowKit.intOf i).toNat)
      case atStart=>exact⟨0,Nat.zero_le _,rfl,_,_,_,_,HF1.out⟩
      case round=>
       obtain⟨j,hj,rfl,HJ⟩:=hrel;obtain⟨EL,EW,vl,vw,hF⟩:=HJ.out;have HF:Hid (FB wz gb EL EW vl vw wr):=hF;clear HJ hF;by_cases hlt:j<n
       ·have HLT:Hid (j<n):=hlt;have HCJ:Hid (CG w HS (.slice ha n hc) ov O [] wr):=HRX.out.2.next HF.out.bel;obtain⟨hbk,y,hae,_,hy,hcell⟩:=hand_at (m:=j) (n:=n) HCJ.out.hrow (by have:=HRX.out.1;omega);subst hae;have HY:Hid (HS[j]?=some y):=hy;obtain⟨lo,hlo1,hlo2,HL⟩:=HCJ.out.hands;obtain⟨lo0,hlo3,hlo4,HL0⟩:=HRX.out.2.hands;have hym:=List.mem_of_getElem? hy;have Y:=HL.hand y hym;have hyf:y.EL.length≤120:=by have:=Y.ri.few;unfold chgsOf at this;rw[List.length_map,List.length_map] at this;omega
        have EA:=rAll_any y.g y.vl y.vw y.EL wr Y.bbox Y.rowL (fun p hp=>(HL.fz y hym p (List.mem_append_left _ hp)).chgW) hyf Y.ri.inv;have HFZ:Hid ((∀p∈y.EL,FzC (fun b=>wz.heap.size≤b) wz p.2 p.1)∧y.EL.length≤120):=⟨fun p hp=>(HL0.fz y hym p (List.mem_append_left _ hp)).mono fun _ _ h=>Or.inr (Or.inl h),hyf⟩
        obtain⟨-,h1,-⟩:=cLs Y.box;have j1:(j:Int)<n:=by omega
        have j2:(0:Int)≤j:=by omega
        clear hlt hj hy hym Y hyf HL HL0 hlo1 hlo2 hlo3 hlo4;go_wp2_with fail;go_fit EA;rintro e w2 ⟨lv,es,rfl,hrow,hall,hlen,hmem,b2⟩;obtain⟨ea,ec,hlv⟩:=slice_row hrow;obtain⟨en,hen⟩:=gNz ((es.map (·.2)).length);rw[hen] at hlv;subst hlv;have HEN:Hid (en=es.length∧en≤120∧∀p∈es,FzC (fun b=>wz.heap.size≤b) wz p.2 p.1):=by
         rw[List.length_map] at hen;exact⟨hen.symm,by have:=HFZ.out.2;omega,fun p hp=>HFZ.out.1 p (hmem p hp)⟩
        have HF2:Hid (FBR wz gb (.slice ea en ec) (es.map (·.2)) EL EW vl vw w2):=⟨HF.out.next b2,own_keep hrow (KpS.refl (fun _=>False) _) (fun _ _ h=>h) (fun b hb=>Nat.le_trans HF.out.bel.size (hrow.lt b hb).1),fun b hb=>by
         have h1:=(hrow.lt b hb).1;exact⟨fun e=>by have:=lt_of_heap HF.out.box;omega,fun e=>by have:=(HF.out.rowL.lt b e).2;omega,fun e=>by have:=(HF.out.rowW.lt b e).2;omega⟩⟩
        have HJ1:Hid ((j:Int)<n∧j+1≤n∧n≤9):=⟨j1,by omega,HNN.out.2⟩
        clear hrow hall hlen hmem b2 EA hen h1 hcell j1 j2;go_wp2_with fail;go_loopw [18] (fun i wx=>∃k:Nat,k≤en∧i=.int .i64 (k:Int)∧Hid (∃EL EW vl vw,FBR wz gb (.slice ea en ec) (es.map (·.2)) EL EW vl vw wx)) (fun i _=>en - (RowKit.intOf i).toNat)
        case atStart=>exact⟨0,Nat.zero_le _,rfl,_,_,_,_,HF2.out⟩
        case round=>
         clear HF2 HF HCJ;obtain⟨k,hk,rfl,HJ⟩:=hrel;obtain⟨EL,EW,vl,vw,hF⟩:=HJ.out;have HF:Hid (FBR wz gb (.slice ea en ec) (es.map (·.2)) EL EW vl vw wr):=hF;clear HJ hF;by_cases hlt:k<en
         ·have hke:k<es.length:=by have:=HEN.out.1;omega
          obtain⟨⟨pc9,pu⟩,hpe⟩:∃p,es[k]=p:=⟨_,rfl⟩
          have hpm:(pc9,pu)∈es:=by rw[←hpe];exact List.getElem_mem hke
          have hfz:=(HEN.out.2.2 _ hpm).kp (KpS.of HF.out.fb.bel);obtain⟨hval,_,hcv,hcells⟩:=toCX_val hfz.chg;dsimp only at hval hcv hcells hfz;obtain⟨xa,xs,xt,xd,xdn,xdc,xo,xom,xoe,rfl⟩:=hcv;have hes:IsChgs wr (.slice ea en ec) (es.map toCX):=rowC_chgs HF.out.row (by have:=HEN.out;omega) fun p hp=>((HEN.out.2.2 p hp).kp (KpS.of HF.out.fb.bel)).chg;obtain⟨eB,eO,eel,ebl,eq1,eq2,ein,ecell,eq3⟩:=chgs_one hes (k:=k) (x:=toCX (pc9,.agg #[.int .i64 xa,.int .i64 xs,.int .i64 xt,.slice xd xdn xdc,.slice xo xom xoe])) (by rw[List.getElem?_map,List.getElem?_eq_getElem hke,hpe];rfl);clear eq1 eq2 eq3 ein;subst eel;rw[hcells] at ecell;have ET:=rTake_any (FT gb vl vw wr) (fun b=>wz.heap.size≤b) wr gb EL EW vl vw _ pc9 wr HF.out.fb.rb HF.out.fb.ri hfz;have e0:wr.cell? ⟨eB,eO+k*5,none⟩=some (.int .i64 xa):=ecell 0 (by omega);have e1:wr.cell? ⟨eB,eO+k*5+1,none⟩=some (.int .i64 xs):=ecell 1 (by omega);have e2:wr.cell? ⟨eB,eO+k*5+2,none⟩=some (.int .i64 xt):=ecell 2 (by omega);have e3:wr.cell? ⟨eB,eO+k*5+3,none⟩=some (.slice xd xdn xdc):=ecell 3 (by omega);have e4:wr.cell? ⟨eB,eO+k*5+4,none⟩=some (.slice xo xom xoe):=ecell 4 (by omega);have g1:(k:Int)<en:=by omega
          have g2:(0:Int)≤k:=by omega
          have HLT:Hid (k<en∧en≤120∧(k:Int)<en):=⟨hlt,HEN.out.2.1,g1⟩
          clear hlt hk hke hpe hpm hfz hval hcells hes ebl ecell;go_wp2_with fail;go_fit ET;rintro e w6 ⟨t,rfl,hT⟩;obtain⟨EL',EW',vl',vw',hF'⟩:=HF.out.take hT;have HF':Hid (FBR wz gb (.slice (some ⟨eB,eO,none⟩) en ec) (es.map (·.2)) EL' EW' vl' vw' w6):=hF';clear hT hF' ET e0 e1 e2 e3 e4 g1 g2;have i3:(k:Int)<1000:=by have:=HLT.out;omega
          go_wp2;go_roundw
          case rel=>exact⟨k+1,HLT.out.1,by go_num,_,_,_,_,HF'.out⟩
          case measure=>have:=HLT.out;simp[RowKit.intOf];omega
         ·have g1:¬(k:Int)<en:=by omega
          have i3:(j:Int)<1000:=by have:=HJ1.out;omega
          clear hlt hk;go_wp2;go_roundw
          case rel=>exact⟨j+1,HJ1.out.2.1,by go_num,_,_,_,_,HF.out.fb⟩
          case measure=>have:=HJ1.out;simp[RowKit.intOf];omega
       ·have g1:¬(j:Int)<n:=by omega
        have hyf:EL.length≤120:=by have:=HF.out.ri.few;unfold chgsOf at this;rw[List.length_map,List.length_map] at this;omega
        have EA:=rAll_any gb vl vw EL wr HF.out.box (own_keep HF.out.rowL (KpS.refl (fun _=>False) _) (fun _ _ h=>h) (fun _ _=>Nat.zero_le _)) (fun p hp=>(HF.out.chgs p (List.mem_append_left _ hp)).chgW) hyf HF.out.ri.inv;have HYF:Hid (EL.length≤120):=hyf;clear hlt hyf;go_wp2_with fail;go_fit EA;rintro e w2 ⟨lv,es,rfl,hrow,hall,hlen,hmem,b2⟩;have HX:Hid (ChangesP w (.returned lv) w2):=by
         have hw:w.heap.size≤wr.heap.size:=Nat.le_trans HRX.out.2.bel.size HF.out.bel.size;exact⟨lv,es,chgsOf EL,rfl,own_keep hrow (KpS.refl (fun _=>False) _) (fun _ _ h=>h) (fun b hb=>Nat.le_trans hw (hrow.lt b hb).1),fun p hp=>((HF.out.chgs p (List.mem_append_left _ (hmem p hp))).below b2).chgW,HF.out.ri.inv,HF.out.fin,by rw[chgs_len];exact HYF.out,hall,by rw[chgs_len];exact hlen,(HRX.out.2.bel.trans (HF.out.bel.mono HRX.out.2.bel.size)).trans (b2.mono hw)⟩
        clear hrow hall hlen hmem b2 EA;have HXP:Hid (post (.returned lv) w2):=by
         show post _ _;rw[HPO.out];exact HX.out
        go_wp2;exact HXP.out
structure Part (L S:List Chg):Prop where
 sub:∀x∈S,x∈L
 cl:∀x∈S,∀d∈x.deps,d∈refsOf S
theorem Part.refs {L S:List Chg} (P:Part L S) {r:Pr} (h:r∈refsOf S):r∈refsOf L:=by
 obtain⟨c,hc,e⟩:=mem_refs.1 h;exact mem_refs.2 ⟨c,P.sub c hc,e⟩
theorem Part.mem {L S:List Chg} (I:Inv L) (P:Part L S) {x:Chg} (hx:x∈L) (h:x.ref∈refsOf S):x∈S:=by
 obtain⟨y,hy,e⟩:=mem_refs.1 h;rw[←refs_inj I.nd (P.sub y hy) hx e];exact hy
theorem IsBeh.mem {L:List Chg} {hs D E:List Pr} (h:IsBeh L hs D) (hm:∀x,x∈E↔x∈D):IsBeh L hs E:=
 ⟨⟨fun x hx hr=>(hm x).2 (h.cl.1 x hx hr),fun c hc hcD d hd hr=>(hm d).2 (h.cl.2 c hc ((hm _).1 hcD) d hd hr)⟩,fun D' hD' x hx=>h.least D' hD' x ((hm x).1 hx)⟩
theorem Part.up {L S:List Chg} {hs D:List Pr} (I:Inv L) (P:Part L S) (hh:∀d∈hs,d∈refsOf S) (h:IsBeh S hs D):IsBeh L hs D:=by
 refine⟨⟨fun x hx _=>h.cl.1 x hx (hh x hx),fun c hc hcD d hd _=>?_⟩,fun D' hD' x hx=>?_⟩
 ·have hm:=P.mem I hc (h.there _ hcD);exact h.cl.2 c hm hcD d hd (P.cl c hm d hd)
 ·exact h.least D' ⟨fun y hy hr=>hD'.1 y hy (P.refs hr),fun c hc hcD d hd hr=>hD'.2 c (P.sub c hc) hcD d hd (P.refs hr)⟩ x hx
theorem Part.down {L S:List Chg} {hs D:List Pr} (I:Inv L) (P:Part L S) (hh:∀d∈hs,d∈refsOf S) (h:IsBeh L hs D):IsBeh S hs D:=by
 obtain⟨E,hE⟩:=beh_ex S hs;exact hE.mem fun x=>h.same (P.up I hh hE) x
theorem part_pre {L pre post:List Chg} {c:Chg} (I:Inv L) (h:L=pre++c::post):Part L pre:=
 ⟨fun x hx=>by rw[h];exact List.mem_append_left _ hx,fun x hx d hd=>by
  obtain⟨p1,p2,hp⟩:=List.append_of_mem hx;obtain⟨y,hy,e⟩:=mem_refs.1 ((I.fit p1 x (p2++c::post) (by rw[h,hp];simp)).1 d hd);exact mem_refs.2 ⟨y,by rw[hp];exact List.mem_append_left _ hy,e⟩⟩
theorem Inv.pref {L pre post:List Chg} (I:Inv L) (h:L=pre++post):Inv pre:=by
 refine⟨?_,fun c hc=>I.ok c (by rw[h];exact List.mem_append_left _ hc),fun p1 c p2 e=>I.fit p1 c (p2++post) (by rw[h,e];simp)⟩;have:=I.nd;rw[h,refs_append] at this;exact(List.nodup_append.1 this).1
theorem fit_any {L S:List Chg} {c:Chg} (I:Inv L) (F:FInv L) (P:Part L S) (hc:c∈L) (hd:∀d∈c.deps,d∈refsOf S):FitC S c:=by
 obtain⟨pre,post,h⟩:=List.append_of_mem hc;have Q:=part_pre I h;obtain⟨D,hD,h1,h2,h3⟩:=F pre c post h;have hS:=P.down I hd (Q.up I (I.fit pre c post h).1 hD);have key:∀A,Part L A→IsBeh A c.deps D→∀x,x∈subL A D↔x∈L∧x.ref∈D:=fun A PA hA x=>by
  rw[mem_subL];exact⟨fun e=>⟨PA.sub x e.1,e.2⟩,fun e=>⟨PA.mem I e.1 (hA.there _ e.2),e.2⟩⟩
 have same:∀x,x∈subL pre D↔x∈subL S D:=fun x=>(key pre Q hD x).trans (key S P hS x).symm;refine⟨D,hS,h1,fun x hx hr ho=>h2 x (mem_subL.1 ((same x).2 (mem_subL.2 ⟨hx,hr⟩))).1 hr ho,fun i hi=>?_⟩;have e:lkc (subL S D++[cutC c i])=lkc (subL pre D++[cutC c i]):=funext fun a=>
  (lkc_same (fun x=>by rw[List.mem_append,List.mem_append,same x]) (uniq_cut (I.pref h) h2 i) a).symm
 rw[e];exact h3 i hi
theorem AllO.pre {L D A B:List Chg} (h:AllO L D) (e:D=A++B):AllO L A:=by
 refine⟨fun c hc=>h.sub c (by rw[e];exact List.mem_append_left _ hc),?_,fun p1 c p2 hp=>h.ord p1 c (p2++B) (by rw[e,hp];simp)⟩;have:=h.nd;rw[e,refs_append] at this;exact(List.nodup_append.1 this).1
theorem AllO.part {L D:List Chg} (h:AllO L D):Part L D:=
 ⟨h.sub,fun x hx d hd=>by
  obtain⟨p1,p2,hp⟩:=List.append_of_mem hx;obtain⟨y,hy,e⟩:=mem_refs.1 ((h.ord p1 x p2 hp).1.2 d hd);exact mem_refs.2 ⟨y,by rw[hp];exact List.mem_append_left _ hy,e⟩⟩
theorem AllO.all {L D:List Chg} (I:Inv L) (h:AllO L D) (hl:D.length=L.length):∀x∈L,x∈D:=fun x hx=>by
 refine Classical.byContradiction fun hn=>?_;have h1:x.ref∉refsOf D:=fun e=>hn (h.part.mem I hx e);have:=sub_len (L:=x::D) (D:=L) (show(x.ref::refsOf D).Nodup from List.nodup_cons.2 ⟨h1,h.nd⟩) (fun r hr=>by
  rcases List.mem_cons.1 (show r∈x.ref::refsOf D from hr) with e | e
  ·exact mem_refs.2 ⟨x,hx,e.symm⟩
  ·exact h.part.refs e)
 rw[List.length_cons] at this;omega
theorem wsteps_nil:∀(n:Nat) {L L' W':List Chg},WSteps n L [] L' W'→L'=L∧W'=[]
 | 0,_,_,_,h=>h
 | n+1,L,L',W',h=>by
  obtain⟨L1,W1,h1,c,h2,_⟩:=h;obtain⟨rfl,rfl⟩:=wsteps_nil n h1;cases h2.1
end Go.Proofs.YtamhlgflbacjgaaGreat
