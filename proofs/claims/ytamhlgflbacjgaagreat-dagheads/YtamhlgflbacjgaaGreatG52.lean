/-
  What is proved: as each theorem says.
  Conditions: as each theorem says.
-/
import Derived.Test.YtamhlgflbacjgaaGreatG00
import Derived.Test.YtamhlgflbacjgaaGreatG44
import Derived.Test.YtamhlgflbacjgaaGreatG49
import Derived.Test.YtamhlgflbacjgaaGreatG51
import Derived.Test.YtamhlgflbacjgaaGreatG12
import Derived.Test.YtamhlgflbacjgaaGreatRows
import Derived.ProofKit
import Derived.OpenShut
import Derived.ChangeOld
import Derived.Deep.Slices
import Derived.Deep.Matrix
import Derived.SizedLaws
set_option maxRecDepth 100000
set_option maxHeartbeats 16000000
namespace Go.Proofs.YtamhlgflbacjgaaGreat
open Go.RowKit Go.Maps Go.Sort
theorem headsLaw_any (sv:Value) (st:List (List Int)) (w:World) (hs:IsSteps w sv st):
 Calls Tryz.prog 4 #[sv] w fun e w'=>e=.returned (.bool true)∧Below w.heap.size w w':=by
 have E1:=rChanges_any 3 sv st w (by decide) hs;rw[show((3:Nat):Int)=3 from rfl] at E1;clear hs;go_enter Tryz.func4,Tryz.ntmps4
 go_wp2_with fail;go_fit E1;rintro e w1 ⟨vo,es,L,rfl,hrow,heach,I,F,hL,A,hlen,b1⟩;clear E1;have A1:ArgH w1 vo es:=⟨rowC_chgs hrow (by omega) (fun p hp=>(heach p hp).chg),heach⟩
 obtain⟨a,cap,hvo,h1,h2,hz1,hz2⟩:=id A1.row;rw[List.length_map] at hvo;clear h1 h2 hz1 hz2;subst hvo;obtain⟨n,hn⟩:=gNz (es.length);have HM:Hid (Inv L∧FInv L∧AllO L (chgsOf es)∧es.length=n∧n≤120∧∀c∈chgsOf es,chk c=0):=⟨I,F,A,hn,by omega,fun c hc=>I.ok c (A.sub c hc)⟩
 rw[hn] at A1 ⊢;have HA1:Hid (ArgH w1 (.slice a n cap) es∧Below w.heap.size w w1):=⟨A1,b1⟩
 clear A1 b1 hn hrow heach I F hL A hlen;have E2:=dnew_any w1;go_wp2_with fail;go_fit E2;rintro e w2 ⟨rfl,K2,b2⟩;clear E2;have HA2:Hid (ArgH w2 (.slice a n cap) es∧Below w.heap.size w w2):=⟨HA1.out.1.below b2,HA1.out.2.trans (b2.mono HA1.out.2.size)⟩
 have HLo:Hid (w.heap.size≤w1.heap.size):=HA1.out.2.size;clear b2 HA1;have E3:=takeX_any w2 (w1.heap.size+2) w1.heap.size (w1.heap.size+1) [] [] valH1 chgH1 (Bk.fresh K2) (valH1_chg w2) Inv.nil;have HK2:Hid (NoCells w2 [w1.heap.size,w1.heap.size+1]):=(Bk.fresh K2).noCells;clear K2;go_wp2_with fail;go_fit E3;rintro e w3 ⟨er,rfl,EH1,EW1,K3,_,kp3,_,T3,X3,_⟩;obtain⟨t3,rfl⟩:=take_first T3 X3;have HT3:Hid (chgsOf EH1=[chgH1]):=t3;have HA3:Hid (ArgH w3 (.slice a n cap) es∧Below w.heap.size w w3):=⟨HA2.out.1.keep kp3 HK2.out,HA2.out.2.trans (kp3.below (fun x hx=>by have:=HLo.out;simp at hx;omega) HA2.out.2.size)⟩
 clear E3 T3 X3 kp3 t3 HA2 HK2 HLo;have E4:=headsX_any w3 _ _ _ EH1 EW1 K3;clear K3;go_wp2_with fail;go_fit E4;rintro e w4 ⟨u,rfl,O1,p1,_,o1,b4⟩;clear E4;rw[HT3.out] at o1;have hl1:=hds_one rfl o1;obtain⟨a4,c4,hu,hy1,hy2,hy3,hy4⟩:=id p1;rw[hl1] at hu;subst hu;have HA4:Hid (ArgH w4 (.slice a n cap) es∧Below w.heap.size w w4):=⟨HA3.out.1.below b4,HA3.out.2.trans (b4.mono HA3.out.2.size)⟩
 clear b4 o1 hl1 p1 hy1 hy2 hy3 hy4 HT3 HA3;have E5:=dnew_any w4;go_wp2_with fail;go_fit E5;rintro e w5 ⟨rfl,K5,b5⟩;clear E5;have HB:Hid (Bk w5 (w4.heap.size+2) w4.heap.size (w4.heap.size+1) [] []∧ArgH w5 (.slice a n cap) es∧Below w.heap.size w w5):=⟨Bk.fresh K5,HA4.out.1.below b5,HA4.out.2.trans (b5.mono HA4.out.2.size)⟩
 have HLh:Hid (w.heap.size≤w4.heap.size∧w.heap.size≤w4.heap.size+1):=⟨HA4.out.2.size,by have:=HA4.out.2.size;omega⟩
 obtain⟨g,hg⟩:=gNz (w4.heap.size+2);obtain⟨h,hh⟩:=gNz (w4.heap.size);obtain⟨q,hq⟩:=gNz (w4.heap.size+1);rw[hg,hq,hh] at HB;rw[hq,hh] at HLh;rw[hg];have HKB:Hid (∀{W W':World},Below w.heap.size w W→Kp [h,q] W W'→Below w.heap.size w W'):=fun {W W'} bb kk=>bb.trans (kk.below (fun x hx=>by simp at hx;rcases hx with e | e <;> rw[e];exact HLh.out.1;exact HLh.out.2) bb.size);clear K5 b5 HA4 hg hh hq HLh;go_wp2_with fail;go_loopw [8] (fun i wr=>∃(k:Nat) (EH:List CE),k≤n∧i=.int .i64 k∧Hid (Bk wr g h q EH []∧Inv (chgsOf EH)∧chgsOf EH=(chgsOf es).take k∧ArgH wr (.slice a n cap) es∧Below w.heap.size w wr)) (fun i _=>n - (RowKit.intOf i).toNat)
 case atStart=>exact⟨0,[],Nat.zero_le _,rfl,HB.out.1,Inv.nil,rfl,HB.out.2⟩
 case round=>
  clear HB;obtain⟨k,EH,hk,rfl,hR⟩:=hrel;have g2:(k:Int)<1000001:=by have:=HM.out.2.2.2.2.1;omega
  have g3:(0:Int)≤k:=by omega
  by_cases hlt:k<n
  ·have g1:(k:Int)<n:=by omega
   obtain⟨p,b,off,ca,cs,ct,da,dn,dc,oa,on,oc,hp,hpm,hpw,rfl,hpv,x0,x1,x2,x3,x4⟩:=hR.out.2.2.2.1.at (k:=k) (by rw[HM.out.2.2.2.1];exact hlt);have E6:=takeX_any wr g h q EH [] p.2 p.1 hR.out.1 hpw hR.out.2.1;rw[hpv] at E6;have HP:Hid (k<n∧∃hk':k<es.length,es[k]=p):=⟨hlt,by rw[HM.out.2.2.2.1];exact hlt,hp⟩
   clear hp hpm hpw hpv hlt hk;go_wp2_with fail;go_fit E6;rintro e w6 ⟨er,rfl,EH',EW',K6,_,kp6,I6,T6,_,_⟩;have HN:Hid (Bk w6 g h q EH' []∧Inv (chgsOf EH')∧chgsOf EH'=(chgsOf es).take (k+1)∧ArgH w6 (.slice (some ⟨b,off,none⟩) n cap) es∧Below w.heap.size w w6):=by
    obtain⟨_,hk',hp⟩:=HP.out;have hk2:k<(chgsOf es).length:=by unfold chgsOf;rw[List.length_map];exact hk'
    have hp2:(chgsOf es)[k]=p.1:=by rw[chgs_at,hp]
    have e1:chgsOf es=(chgsOf es).take k++p.1::(chgsOf es).drop (k+1):=by rw[←hp2,List.getElem_cons_drop,List.take_append_drop]
    rw[hR.out.2.2.1] at T6;obtain⟨t1,t2⟩:=take_next HM.out.1 HM.out.2.1 HM.out.2.2.1 e1 (by unfold chgsOf;rw[List.length_map];have:=HM.out.2.2.2;omega) T6;obtain rfl:EW'=[]:=List.map_eq_nil_iff.1 t2;refine⟨K6,I6,by rw[t1,List.take_succ_eq_append_getElem hk2,hp2],hR.out.2.2.2.1.keep kp6 hR.out.1.noCells,HKB.out hR.out.2.2.2.2 kp6⟩
   clear E6 x0 x1 x2 x3 x4 K6 kp6 I6 T6;go_wp2_with fail;go_roundw
   case rel=>exact⟨k+1,EH',HP.out.1,by go_num,HN.out⟩
   case measure=>simp[RowKit.intOf];have:=HP.out.1;omega
  ·have g1:¬(k:Int)<n:=by omega
   have HE:Hid (Bk wr g h q EH []∧chgsOf EH=chgsOf es∧ArgH wr (.slice a n cap) es∧Below w.heap.size w wr):=by
    have e1:=hR.out.2.2.1;rw[List.take_of_length_le (by unfold chgsOf;rw[List.length_map];have:=HM.out.2.2.2.1;omega)] at e1;exact⟨hR.out.1,e1,hR.out.2.2.2⟩
   clear hlt hk hR g2 g3;have E7:=headsX_any wr g h q EH [] HE.out.1;go_wp2_with fail;go_fit E7;rintro e w7 ⟨u,rfl,O,p7,wh7,o7,b7⟩;clear E7;rw[HE.out.2.1] at o7;have B7:=HE.out.1.below b7;have HO:Hid (IsHds (chgsOf es) O∧(∀r∈O,r∈refsOf (chgsOf es))∧O.all refB=true∧O.length≤120):=⟨o7,(hds_there o7 HM.out.2.2.2.2.2).1,(hds_there o7 HM.out.2.2.2.2.2).2,by
    have h1:=hds_few o7;unfold chgsOf at h1;rw[List.length_map] at h1;have:=HM.out.2.2.2;omega⟩
   have H7:Hid (Bk w7 g h q EH []∧chgsOf EH=chgsOf es∧ArgH w7 (.slice a n cap) es∧Below w.heap.size w w7∧IsPairs w7 u O∧Wh u):=⟨B7,HE.out.2.1,HE.out.2.2.1.below b7,HE.out.2.2.2.trans (b7.mono HE.out.2.2.2.size),p7,wh7⟩
   clear HE b7 o7 B7 p7 wh7;have E8:=dBehind_any w7 g h q EH [] u O H7.out.1 H7.out.2.2.2.2.1 (by have:=HO.out.2.2.2;omega);go_wp2_with fail;go_fit E8;rintro e w8 ⟨hd,b8⟩;clear E8;obtain⟨u8,X,rfl,p8,hX⟩:∃u X,e=.returned (.tuple #[u,.nilIface])∧IsPairs w8 u X∧X=refsS (chgsOf es):=by
    rcases hd with⟨hno,_⟩ | ⟨_,u,X,he,q1,_,q2,q3⟩
    ·rw[H7.out.2.1] at hno;exact absurd HO.out.2.1 hno
    ·rw[H7.out.2.1] at q3;refine⟨u,X,he,q1,rise_ext q2 (refsS_facts _).1 fun x=>?_⟩;rw[(refsS_facts _).2.1 x];exact heads_all HM.out.2.2.1 HO.out.1 q3 x
   subst hX;have H8:Hid (Bk w8 g h q EH []∧ArgH w8 (.slice a n cap) es∧Below w.heap.size w w8∧IsPairs w8 u O∧IsPairs w8 u8 (refsS (chgsOf es))):=⟨H7.out.1.below b8,H7.out.2.2.1.below b8,H7.out.2.2.2.1.trans (b8.mono H7.out.2.2.2.1.size),H7.out.2.2.2.2.1.below b8,p8⟩
   have HW:Hid (Wh u∧chgsOf EH=chgsOf es):=⟨H7.out.2.2.2.2.2,H7.out.2.1⟩
   clear hd b8 p8 H7;have E9:=rRefs_any (.slice a n cap) (es.map toCX) w8 H8.out.2.1.row (by rw[List.length_map];have:=HM.out.2.2.2;omega);rw[map_toCX] at E9;go_wp2_with fail;go_fit E9;rintro e w9 ⟨⟨u9,rfl,p9,_⟩,b9⟩;clear E9;have H9:Hid (Bk w9 g h q EH []∧Below w.heap.size w w9∧IsPairs w9 u O∧IsPairs w9 u8 (refsS (chgsOf es))∧IsPairs w9 u9 (refsS (chgsOf es))):=⟨H8.out.1.below b9,H8.out.2.2.1.trans (b9.mono H8.out.2.2.1.size),H8.out.2.2.2.1.below b9,H8.out.2.2.2.2.below b9,p9⟩
   clear b9 p9 H8;have E10:=sameRefs_any u8 u9 _ w9 H9.out.2.2.2.1 H9.out.2.2.2.2;go_wp2_with fail;go_fit E10;rintro e w10 ⟨rfl,b10⟩;clear E10;have H10:Hid (Bk w10 g h q EH []∧Below w.heap.size w w10∧IsPairs w10 u O):=⟨H9.out.1.below b10,H9.out.2.1.trans (b10.mono H9.out.2.1.size),H9.out.2.2.1.below b10⟩
   clear b10 H9;have E11:=dMissing_any w10 g h q EH [] u O H10.out.1 H10.out.2.2 HW.out.1 (by have:=HO.out.2.2.2;omega);go_wp2_with fail;go_fit E11;rintro e w11 ⟨hm,b11⟩;clear E11;obtain⟨a11,c11,rfl⟩:∃a c,e=.returned (.tuple #[.slice a 0 c,.nilIface]):=by
    rcases hm with⟨hno,_⟩ | ⟨_,u,Y,he,⟨ya,yc,hy,_⟩,q2⟩
    ·rw[HO.out.2.2.1] at hno;cases hno
    ·have e2:Y=[]:=miss_none (M:=chgsOf es) HO.out.2.1 (by rw[←HW.out.2];exact q2);rw[e2] at hy;exact⟨ya,yc,by rw[he,hy];rfl⟩
   obtain⟨ua,on,uc,hu⟩:∃a n c,u=.slice a n c:=by obtain⟨ya,yc,hy,_⟩:=H10.out.2.2;exact⟨_,_,_,hy⟩
   subst hu;obtain⟨HN⟩:Nonempty (Hid (on=O.length∧on≤uc)):=⟨by obtain⟨ya,yc,hy,h1,_⟩:=H10.out.2.2;have e2:=Value.slice.inj hy;exact⟨e2.2.1,by rw[e2.2.1,e2.2.2];exact h1⟩⟩
   have H11:Hid (Bk w11 g h q EH []∧Below w.heap.size w w11∧IsPairs w11 (.slice ua on uc) O):=⟨H10.out.1.below b11,H10.out.2.1.trans (b11.mono H10.out.2.1.size),H10.out.2.2.below b11⟩
   have HEQ:Hid (chgsOf EH=chgsOf es):=HW.out.2;clear hm b11 H10 HW;go_wp2_with fail;go_loopw [16] (fun xi wr=>∃i:Nat,i≤on∧xi=.int .i64 i∧Hid (Bk wr g h q EH []∧Below w.heap.size w wr∧IsPairs wr (.slice ua on uc) O)) (fun xi _=>on - (RowKit.intOf xi).toNat)
   case atStart=>exact⟨0,Nat.zero_le _,rfl,H11.out⟩
   case round=>
    clear H11;obtain⟨i,hi,rfl,hR⟩:=hrel;by_cases hlt:i<on
    ·have hil:i<O.length:=by rw[←HN.out.1];exact hlt
     obtain⟨a',c',e9,_,_,h64,h4⟩:=id hR.out.2.2;obtain⟨pb,po,ha',h5,h6⟩:=h4 (fun e=>by rw[e] at hil;simp at hil);have hva:ua=some ⟨pb,po,none⟩:=(Value.slice.inj e9).1.trans ha';subst hva;obtain⟨r,hr⟩:=gNz (O[i]:Pr);obtain⟨j,hj⟩:=gNz (i+1:Nat);obtain⟨cz,hcz⟩:=gNz (uc - i:Nat);have hp1:IsPairs wr (.slice (some ⟨pb,po+i*2,none⟩) 1 cz) [r]:=by
      refine⟨_,_,rfl,by have:=HN.out;simp;omega,by simp,fun x hx=>by rw[List.mem_singleton.1 hx,←hr];exact h64 _ (List.getElem_mem hil),fun _=>⟨pb,_,rfl,h5,fun t ht=>?_⟩⟩;have ht0:t=0:=by simp at ht;omega
      subst ht0;have h7:=h6 i hil;rw[hr] at h7;refine⟨?_,?_⟩
      ·rw[Nat.zero_mul,Nat.add_zero];exact h7.1
      ·rw[Nat.zero_mul,Nat.add_zero];exact h7.2
     have E12:=dBehind_any wr g h q EH [] _ [r] hR.out.1 hp1 (by simp);have HRB:Hid (∃h:i<O.length,O[i]=r):=⟨hil,hr⟩
     have HJ:Hid (i+1=j∧j≤on):=⟨hj,by omega⟩
     have g1:(i:Int)<on:=by omega
     have g2:(0:Int)≤i:=by omega
     have g5:(j:Int)≤uc:=by have:=HN.out;omega
     have g6:(i:Int)≤j:=by omega
     have g7:j - i=1:=by omega
     have g8:¬uc=i:=by have:=HN.out;omega
     have hw1:wrap64 ((i:Int)+1)=(j:Int):=by unfold wrap64;have:=HN.out;have:=HO.out.2.2.2;omega
     clear e9 h64 h4 ha' h5 h6 hr hj hi hlt hp1 hil;go_wp2_with fail;go_fit E12;rintro e w12 ⟨hd,b12⟩;obtain⟨ya,yn,yc,Y,rfl,p12,hY⟩:∃ya yn yc Y,e=.returned (.tuple #[.slice ya yn yc,.nilIface])∧IsPairs w12 (.slice ya yn yc) Y∧IsBeh (chgsOf es) [r] Y:=by
      obtain⟨hil,hr⟩:=HRB.out;rcases hd with⟨hno,_⟩ | ⟨_,u,Y,he,q1,_,_,q3⟩
      ·refine absurd (fun x hx=>?_) hno;rw[List.mem_singleton.1 hx,HEQ.out,←hr];exact HO.out.2.1 _ (List.getElem_mem _)
      ·obtain⟨ya,yc,hy,_⟩:=id q1;subst hy;rw[HEQ.out] at q3;exact⟨_,_,_,Y,he,q1,q3⟩
     have H12:Hid (Bk w12 g h q EH []∧Below w.heap.size w w12∧IsPairs w12 (.slice (some ⟨pb,po,none⟩) on uc) O∧IsPairs w12 (.slice ya yn yc) Y):=⟨hR.out.1.below b12,hR.out.2.1.trans (b12.mono hR.out.2.1.size),hR.out.2.2.below b12,p12⟩
     have HY:Hid (IsBeh (chgsOf es) [r] Y):=hY;clear E12 hd b12 p12 hY hR hw1 g5 g6 g7 g8 hcz;go_wp2_with fail;go_loopw [19] (fun xk wr=>∃k:Nat,k≤on∧xk=.int .i64 k∧Hid (Bk wr g h q EH []∧Below w.heap.size w wr∧IsPairs wr (.slice (some ⟨pb,po,none⟩) on uc) O∧IsPairs wr (.slice ya yn yc) Y)) (fun xk _=>on - (RowKit.intOf xk).toNat)
     case atStart=>exact⟨0,Nat.zero_le _,rfl,H12.out⟩
     case round=>
      clear H12;obtain⟨k,hk,rfl,hR⟩:=hrel;by_cases hlt:k<on
      ·have hkl:k<O.length:=by rw[←HN.out.1];exact hlt
       obtain⟨a',c',e9,_,_,h64,h4⟩:=id hR.out.2.2.1;obtain⟨pb',po',ha',h5,h6⟩:=h4 (fun e=>by rw[e] at hkl;simp at hkl);obtain⟨e7,e8,-⟩:=Addr.mk.inj (Option.some.inj ((Value.slice.inj e9).1.trans ha'));rw[←e7,←e8] at h6;obtain⟨sa,ss,hsr⟩:∃sa ss:Int,O[k]=(sa,ss):=⟨_,_,rfl⟩
       have x0:=(h6 k hkl).1;have x1:=(h6 k hkl).2;rw[hsr] at x0 x1;have E13:=rHas_any _ Y (sa,ss) wr hR.out.2.2.2;have hiff:((sa,ss)∈Y↔i=k):=by
        obtain⟨hil,hr⟩:=HRB.out;have h1:=head_one HO.out.1 (r:=r) (x:=(sa,ss)) (by rw[←hr];exact List.getElem_mem _) HY.out (by rw[←hsr];exact List.getElem_mem _);rw[h1,←hsr,←hr];have hnd:=rise_nd HO.out.1.1;constructor
        ·intro e;exact((List.getElem_inj hnd).1 e).symm
        ·intro e;subst e;rfl
       have g1k:(k:Int)<on:=by omega
       have g2k:(0:Int)≤k:=by omega
       have g3k:(k:Int)<1000001:=by have:=HN.out;have:=HO.out.2.2.2;omega
       have HKL:Hid (k<on):=hlt;by_cases hik:i=k
       ·have e1:decide ((sa,ss)∈Y)=true:=decide_eq_true (hiff.2 hik);rw[e1] at E13;subst hik;clear e9 h64 h4 ha' h5 h6 e7 e8 hsr hkl hiff hlt hk e1;go_wp2_with fail;go_fit E13;rintro e w13 ⟨rfl,b13⟩;have H13:Hid (Bk w13 g h q EH []∧Below w.heap.size w w13∧IsPairs w13 (.slice (some ⟨pb,po,none⟩) on uc) O∧IsPairs w13 (.slice ya yn yc) Y):=⟨hR.out.1.below b13,hR.out.2.1.trans (b13.mono hR.out.2.1.size),hR.out.2.2.1.below b13,hR.out.2.2.2.below b13⟩
        clear E13 b13 x0 x1 hR;go_wp2_with fail;go_roundw
        case rel=>exact⟨i+1,HKL.out,by go_num,H13.out⟩
        case measure=>simp[RowKit.intOf];have:=HKL.out;omega
       ·have e1:decide ((sa,ss)∈Y)=false:=decide_eq_false fun e=>hik (hiff.1 e);rw[e1] at E13;have hde:((i:Int)==(k:Int))=false:=by simp;omega
        have HDE:Hid (((i:Int)==(k:Int))=false):=hde;have H3K:Hid ((k:Int)<1000001):=g3k;clear e9 h64 h4 ha' h5 h6 e7 e8 hsr hkl hiff hlt hk e1 hik hde;go_wp2_with fail;go_fit E13;rintro e w13 ⟨rfl,b13⟩;clear g1 g2 g1k g2k g3k;have hde:=HDE.out;have H13:Hid (Bk w13 g h q EH []∧Below w.heap.size w w13∧IsPairs w13 (.slice (some ⟨pb,po,none⟩) on uc) O∧IsPairs w13 (.slice ya yn yc) Y):=⟨hR.out.1.below b13,hR.out.2.1.trans (b13.mono hR.out.2.1.size),hR.out.2.2.1.below b13,hR.out.2.2.2.below b13⟩
        clear E13 b13 x0 x1 hR;go_upto_region 27 with fail
        have g3k:=H3K.out;clear hde;go_wp2_with fail;go_roundw
        case rel=>exact⟨k+1,HKL.out,by go_num,H13.out⟩
        case measure=>simp[RowKit.intOf];have:=HKL.out;omega
      ·have g1k:¬(k:Int)<on:=by omega
       have g9:(i:Int)<1000001:=by obtain⟨hil,_⟩:=HRB.out;have:=HO.out.2.2.2;omega
       clear hlt hk;go_wp2_with fail;go_roundw
       case rel=>exact⟨i+1,by have:=HJ.out;omega,by go_num,hR.out.1,hR.out.2.1,hR.out.2.2.1⟩
       case measure=>simp[RowKit.intOf];have:=HJ.out;omega
    ·have g1:¬(i:Int)<on:=by omega
     have HEND:Hid (Below w.heap.size w wr):=hR.out.2.1;clear hlt hi;go_wp2_with fail;go_ret;exact⟨rfl,HEND.out⟩
end Go.Proofs.YtamhlgflbacjgaaGreat
namespace Go.Proofs.YtamhlgflbacjgaaGreat
open Go.ChangeShapes Go.WideShapes Go.ChangeAt Go.RowKit Go.Deep
theorem ownNone:ownKnob Tryz.prog.godebug=none:=by kernel_rfl
theorem at_cellH {w:World} {a:Addr} {v:Value} (h:w.cell? a=some v):a.spot=none∧a.block<w.heap.size:=by
 obtain⟨b,o,s⟩:=a;unfold World.cell? at h;simp only at h ⊢;rcases Nat.lt_or_ge b w.heap.size with hb | hb
 ·refine⟨?_,hb⟩;cases s with
  | none=>rfl
  | some x=>
   split at h
   ·simp at h
   ·cases h
 ·rw[Array.getElem?_eq_none hb] at h;simp at h
theorem add_atH (b off i:Nat):(⟨b,off,none⟩:Addr).add i=⟨b,off+i,none⟩:=by unfold Addr.add;split <;> simp_all
theorem i64_ofH {n:Int} (h:(Lit.int .i64 n).wf=true):I64 n:=by
 simp[Lit.wf,IntKind.min,IntKind.max,IntKind.bits,IntKind.signed] at h;unfold I64;omega
theorem cellsS:Tryz.prog.cellsOf 53=1:=by kernel_rfl
theorem open_stepsH {H:Type} {enc:TypeId×Value→H} {W:World} {b0 base:Nat} {held:Bool} {v:Value} {d:DataW H} {p:List MemPlace}
 (hv:Value.okWide Tryz.prog W .any b0 22 v) (h:DataW.Trod enc Tryz.prog W base (fun _=>true) held 22 v d p):∃ls,IsSteps W v ls:=by
 obtain⟨a0,len0,cap0,rfl⟩:=okWide_slice Tryz.underlying22 hv;obtain⟨fuel,hf⟩:=h;rcases open_int_rows Tryz.underlying22 Tryz.underlying53 Tryz.underlying3 cellsS cells3 hf with⟨hcs,_⟩ | ⟨a,len,cap,A,L,C,Z,hcs,_,hl,_,hx,hall⟩
 ·simp[Value.cells] at hcs;obtain⟨rfl,rfl,rfl⟩:=hcs;exact⟨[],none,0,rfl,by simp,fun h=>absurd rfl h⟩
 ·simp[Value.cells] at hcs;obtain⟨rfl,rfl,rfl⟩:=hcs;refine⟨(List.range len0).map fun r=>(Z r).take (L r),some a,cap0,by simp,by simpa using hl,fun hne=>?_⟩;have h0:0<len0:=by
   rcases Nat.eq_zero_or_pos len0 with e | e
   ·subst e;simp at hne
   ·exact e
  obtain⟨hs,hb⟩:=at_cellH (hall 0 (by omega)).1;obtain⟨b,off,s⟩:=a;have hs':s=none:=by simpa [Addr.add] using hs
  subst hs';refine⟨b,off,rfl,by simpa [Addr.add] using hb,fun i hi=>?_⟩;have hi':i<len0:=by simpa using hi
  obtain⟨c1,c2,c3,c4,c5,c6,c7⟩:=hall i (by omega);rw[add_atH] at c1;refine⟨_,c1,?_⟩;rw[List.getElem_map,List.getElem_range];have hlen:((Z i).take (L i)).length=L i:=by rw[List.length_take];omega
  refine⟨A i,C i,by rw[hlen],by rw[hlen];exact c2,fun x hx=>i64_ofH (c5 x (List.mem_of_mem_take hx)),fun hne2=>?_⟩;have hL0:0<L i:=by
   rcases Nat.eq_zero_or_pos (L i) with e | e
   ·rw[e] at hne2;simp at hne2
   ·exact e
  cases hA:A i with
  | none=>have:=c6 hA;omega
  | some a'=>
   obtain⟨_,c8⟩:=c7 a' hA;obtain⟨hs2,hb2⟩:=at_cellH (c8 0 (by omega));obtain⟨b2,off2,s2⟩:=a';have hs2':s2=none:=by simpa [Addr.add] using hs2
   subst hs2';refine⟨b2,off2,rfl,by simpa [Addr.add] using hb2,fun k hk=>?_⟩;have hk':k<L i:=by rw[hlen] at hk;exact hk
   have h9:=c8 k (by omega);rw[add_atH] at h9;rw[h9,List.getElem_take];simp[show k<(Z i).length by omega]
end Go.Proofs.YtamhlgflbacjgaaGreat
