/-
  What is proved: as each theorem says.
  Conditions: as each theorem says.
-/
import Derived.Test.YtamhlgflbacjgaaGreatF00
import Derived.Test.YtamhlgflbacjgaaGreatF45
import Derived.Test.YtamhlgflbacjgaaGreatF50
import Derived.Test.YtamhlgflbacjgaaGreatF39
import Derived.Test.YtamhlgflbacjgaaGreatF15
import Derived.Test.YtamhlgflbacjgaaGreatF41
import Derived.Test.YtamhlgflbacjgaaGreatRows
import Derived.ProofKit
import Derived.OpenShut
import Derived.ChangeOld
import Derived.Deep.Slices
import Derived.Deep.Matrix
import Derived.SizedLaws
set_option maxRecDepth 100000
set_option maxHeartbeats 16000000
namespace Go.Proofs.YtamhlgflbacjgaaGreat
open Go.RowKit Go.Maps
theorem Bk.fresh {w:World} {g h q:Nat} (B:BookAt w g h q [] []):Bk w g h q [] []:=
 ⟨B,fun p hp=>by simp at hp,fun pre p post he=>by simp at he,by simp,fun r hr=>by simp at hr⟩
theorem IsChgs.keepH {S:List Nat} {w w':World} {v:Value} {l:List CX} (h:IsChgs w v l) (k:Kp S w w') (hn:NoCells w S):IsChgs w' v l:=by
 obtain⟨a,cap,rfl,h1,h2,hr,h3⟩:=h;refine⟨a,cap,rfl,h1,h2,fun x hx=>?_,fun hl=>?_⟩
 ·obtain⟨ud,uo,m,g1,g2,g3,g4,g5,g6,g7⟩:=hr x hx;exact⟨ud,uo,m,g1,g2,g3,g4,g5.keep k hn,g6.keep k hn,g7⟩
 ·obtain⟨b,off,rfl,h4,h5⟩:=h3 hl;have hb:b∉S:=fun e=>by
   have h6:=h5 0 (List.length_pos_iff.2 hl) 0 (by decide);rw[hn b e] at h6;simp at h6
  exact⟨b,off,rfl,Nat.lt_of_lt_of_le h4 k.size,fun i hi j hj=>by rw[k.cell (p:=⟨b,off+i*5+j,none⟩) h4 hb];exact h5 i hi j hj⟩
structure ArgH (w:World) (v:Value) (l:List CE):Prop where
 row:IsChgs w v (l.map toCX)
 each:∀p∈l,IsChgW w p.2 p.1
theorem ArgH.keep {S:List Nat} {w w':World} {v:Value} {l:List CE} (h:ArgH w v l) (k:Kp S w w') (hn:NoCells w S):ArgH w' v l:=
 ⟨h.row.keepH k hn,fun p hp=>(h.each p hp).keep k hn⟩
theorem ArgH.below {w w':World} {v:Value} {l:List CE} (h:ArgH w v l) (b:Below w.heap.size w w'):ArgH w' v l:=
 ⟨h.row.below b,fun p hp=>(h.each p hp).below b⟩
abbrev chgH1:Chg:={actor:=1,seq:=1,start:=1,deps:=[],ops:=[]}
abbrev valH1:Value:=.agg #[.int .i64 1,.int .i64 1,.int .i64 1,.slice none 0 0,.slice none 0 0]
theorem valH1_chg (w:World):IsChgW w valH1 chgH1:=
 ⟨_,_,[],rfl,by unfold I64;decide,⟨none,0,rfl,lRf,by simp,by simp,fun h=>absurd rfl h⟩,⟨none,0,rfl,lRf,by simp,by simp,fun h=>absurd rfl h⟩,rfl,by unfold Wh;simp,by unfold Wh;simp,by simp⟩
theorem chkH1:chk chgH1=0:=by decide
theorem fitH1:FitC [] chgH1:=by
 refine⟨[],⟨⟨(fun _ h=>by cases h),(fun _ h=>by cases h)⟩,(fun _ _ _ h=>by cases h)⟩,⟨(fun _ h=>by cases h),(fun h=>absurd h (by decide))⟩,(fun _ h=>by cases h),fun i hi=>?_⟩;exact absurd hi (Nat.not_lt_zero i)
theorem take_first {EH EW:List CE} {er:Value} (T:TakeR (chgsOf []) (chgsOf []) chgH1 (chgsOf EH) (chgsOf EW)) (X:ErrX (chgsOf []) (chgsOf []) chgH1 er):chgsOf EH=[chgH1]∧er=.nilIface:=by
 have n1:¬(chgH1.ref∈refsOf (chgsOf [])∨chgH1.ref∈refsOf (chgsOf [])):=fun h=>h.elim (fun h=>by cases h) (fun h=>by cases h);obtain⟨n,h,_⟩:=T.take chkH1 n1 (by decide) (fun _ h=>by cases h) fitH1;exact⟨(wsteps_nil n h).1,X.take chkH1 n1 (by decide) (fun _ h=>by cases h) fitH1⟩
theorem ArgH.at {w:World} {a:Option Addr} {n cap:Nat} {l:List CE} (h:ArgH w (.slice a n cap) l) {k:Nat} (hk:k<l.length):∃(p:CE) (b off:Nat) (ca cs ct:Int) (da:Option Addr) (dn dc:Nat) (oa:Option Addr) (on oc:Nat),l[k]=p∧p∈l∧IsChgW w p.2 p.1∧a=some ⟨b,off,none⟩∧p.2=.agg #[.int .i64 ca,.int .i64 cs,.int .i64 ct,.slice da dn dc,.slice oa on oc]∧w.cell? ⟨b,off+k*5,none⟩=some (.int .i64 ca)∧w.cell? ⟨b,off+k*5+1,none⟩=some (.int .i64 cs)∧w.cell? ⟨b,off+k*5+2,none⟩=some (.int .i64 ct)∧w.cell? ⟨b,off+k*5+3,none⟩=some (.slice da dn dc)∧w.cell? ⟨b,off+k*5+4,none⟩=some (.slice oa on oc):=by
 obtain⟨p,hp⟩:=gNz (l[k]);have hpm:p∈l:=by rw[←hp];exact List.getElem_mem _
 have hpw:=h.each p hpm;obtain⟨ca,cs,ct,da,dn,dc,oa,on,oc,hpv⟩:=hpw.cv;have hcs:(toCX p).cells=[.int .i64 ca,.int .i64 cs,.int .i64 ct,.slice da dn dc,.slice oa on oc]:=by rw[(toCX_val hpw.chg).2.2.2,hpv];rfl
 obtain⟨a',cap',hav,_,_,_,hrw⟩:=h.row;obtain⟨b,off,hab,_,hcl⟩:=hrw (fun e=>by rw[List.map_eq_nil_iff] at e;rw[e] at hk;simp at hk);have haa:a=some ⟨b,off,none⟩:=(Value.slice.inj hav).1.trans hab;have hcl':∀j,j<5→w.cell? ⟨b,off+k*5+j,none⟩=[Value.int .i64 ca,.int .i64 cs,.int .i64 ct,.slice da dn dc,.slice oa on oc][j]?:=fun j hj=>by
  have:=hcl k (by simpa using hk) j hj;rw[this,List.getElem_map,hp,hcs]
 exact⟨p,b,off,ca,cs,ct,da,dn,dc,oa,on,oc,hp,hpm,hpw,haa,hpv,hcl' 0 (by decide),hcl' 1 (by decide),hcl' 2 (by decide),hcl' 3 (by decide),hcl' 4 (by decide)⟩
end Go.Proofs.YtamhlgflbacjgaaGreat
namespace Go.Proofs.YtamhlgflbacjgaaGreat
open Go.RowKit Go.Sort
theorem slice_rowM {w:World} {B e s n:Nat} {v:Value} {xs:List Value} (h:w.ownsRow B e s v n xs):∃a c,v=.slice a n c:=by
 rcases h.2 with⟨rfl,e⟩ | ⟨g,cap,cur,rfl,_⟩
 ·exact⟨_,_,by rw[e]⟩
 ·exact⟨_,_,rfl⟩
structure MissP (L W:List Chg) (hs O:List Pr):Prop where
 rise:Rise O
 mem:∀r,r∈O↔(r∈hs∨∃x∈W,r∈x.deps)∧r∉refsOf L∧r∉refsOf W
theorem rise_ext {l m:List Pr} (hl:Rise l) (hm:Rise m) (h:∀x,x∈l↔x∈m):l=m:=by
 refine rise_unique ?_ hl hm;exact(List.perm_ext_iff_of_nodup (rise_nd hl) (rise_nd hm)).2 h
theorem MissP.uniq {L W V:List Chg} {hs O Q:List Pr} (hp:W.Perm V) (h:MissP L W hs O) (g:MissP L V hs Q):O=Q:=by
 refine rise_ext h.rise g.rise fun x=>?_;rw[h.mem,g.mem];have e1:(∃y∈W,x∈y.deps)↔∃y∈V,x∈y.deps:=⟨fun⟨y,hy,hx⟩=>⟨y,hp.mem_iff.1 hy,hx⟩,fun⟨y,hy,hx⟩=>⟨y,hp.mem_iff.2 hy,hx⟩⟩
 have e2:x∈refsOf W↔x∈refsOf V:=(hp.map Chg.ref).mem_iff;rw[e1,e2]
end Go.Proofs.YtamhlgflbacjgaaGreat
namespace Go.Proofs.YtamhlgflbacjgaaGreat
open Go.RowKit Go.Maps Go.Sort
theorem Bk.side {S:List Nat} {w w':World} {g h q:Nat} {EH EW:List CE} (B:Bk w g h q EH EW) (k:Kp S w w') (hn:NoCells w S) (hh:h∉S) (hq:q∉S):Bk w' g h q EH EW:=
 ⟨⟨k.heap B.book.box (fun e=>by have:=hn g e 0;rw[cLo B.book.box 0] at this;cases this),B.book.has.kp k hh,B.book.wait.kp k hq,B.book.ne⟩,fun p hp=>⟨(B.chgs p hp).1.keep k hn,(B.chgs p hp).2⟩,B.clo,B.many,B.dis⟩
theorem bk_nd {w:World} {g h q:Nat} {EH EW:List CE} (B:Bk w g h q EH EW):(refsOf (chgsOf EH++chgsOf EW)).Nodup:=by
 rw[refs_append,refs_chgs,refs_chgs,List.nodup_append];exact⟨(nodup_ents B).1,(nodup_ents B).2,fun a ha b hb e=>B.dis b hb (e▸ha)⟩
theorem tak_step {L0 P:List Chg} {w w':World} {g h q:Nat} {EH EW:List CE} {c:Chg} {er:Value} (I:Inv L0) (F:FInv L0) (hm:L0.length≤120) (B:Bk w g h q EH EW) (T:Tak L0 P (chgsOf EH) (chgsOf EW)) (hc:c∈L0) (X:TakeX w g h q EH EW c er w'):
 er=.nilIface∧Kp [h,q] w w'∧∃EH' EW',Bk w' g h q EH' EW'∧Inv (chgsOf EH')∧Tak L0 (P++[c]) (chgsOf EH') (chgsOf EW'):=by
 obtain⟨EH',EW',B',_,k,I',T',X',_⟩:=X;obtain⟨t1,t2⟩:=T.next I F hm hc (bk_nd B) T' X';exact⟨t2,k,EH',EW',B',I',t1⟩
theorem all_es {L0 M:List Chg} {w w':World} {g h q:Nat} {EH EW:List CE} {lv:Value} (I:Inv L0) (A:AllO L0 M) (hl:M.length=L0.length) (B:Bk w g h q EH EW) (hiff:∀x,x∈chgsOf EH↔x∈M) (X:AllP w EH lv w'):∃es,ArgH w' lv es∧chgsOf es=M∧Below w.heap.size w w':=by
 obtain⟨ts,D,es,p1,r1,o1,_,e1,row,m1,b⟩:=X;obtain⟨A',hlen⟩:=all_order (nodup_ents B).1 B.clo p1 r1 o1 e1 (fun p hp=>(m1 p hp).2.2);have hE:(chgsOf EH).length=M.length:=by
  have n1:(refsOf (chgsOf EH)).Nodup:=by rw[refs_chgs];exact(nodup_ents B).1
  have h1:=sub_len (L:=chgsOf EH) (D:=M) n1 (fun r hr=>by
   obtain⟨x,hx,e⟩:=mem_refs.1 hr;exact mem_refs.2 ⟨x,(hiff x).1 hx,e⟩)
  have h2:=sub_len (L:=M) (D:=chgsOf EH) A.nd (fun r hr=>by
   obtain⟨x,hx,e⟩:=mem_refs.1 hr;exact mem_refs.2 ⟨x,(hiff x).2 hx,e⟩)
  omega
 refine⟨es,⟨rowC_chgs row (by have:=B.many;omega) (fun p hp=>(m1 p hp).1.chg),fun p hp=>(m1 p hp).1⟩,?_,b⟩;refine(A.uniq I (fun x=>⟨fun hx=>(hiff x).2 (A.all I hl x hx),fun hx=>A.sub x ((hiff x).1 hx)⟩) A' ?_).symm;have e1:(chgsOf es).length=es.length:=by unfold chgsOf;rw[List.length_map]
 have e2:(chgsOf EH).length=EH.length:=by unfold chgsOf;rw[List.length_map]
 omega
theorem same_es {w:World} {v u:Value} {es fs:List CE} (A:ArgH w v es) (A':ArgH w u fs) (he:chgsOf es=chgsOf fs) (hc:∀c∈chgsOf es,chk c=0):
 Calls Tryz.prog 10 #[v,u] w fun e w'=>e=.returned (.bool true)∧Below w.heap.size w w':=
 sameC_any v u (es.map toCX) (fs.map toCX) w A.row A'.row (by rw[map_toCX,map_toCX];exact he) (fun x hx=>by
  obtain⟨p,hp,rfl⟩:=List.mem_map.1 hx;exact hc p.1 (mem_chgs.2 ⟨p,hp,rfl⟩))
theorem rPickX_any (k n:Int) (w:World) (hn:0<n) (hn2:n≤1000000):Calls Tryz.prog 9 #[.int .i64 k,.int .i64 n] w fun e w'=>e=.returned (.int .i64 ((k.tmod n+n).tmod n))∧Below w.heap.size w w':=by
 have h0:(n==0)=false:=by simp;omega
 have hr: -n<k.tmod n∧k.tmod n<n:=by
  rcases Int.le_total 0 k with h | h
  ·have:=Int.tmod_nonneg n h;have:=Int.tmod_lt_of_pos k hn;omega
  ·have h2:=Int.tmod_lt_of_pos (-k) hn;have h3:=Int.tmod_nonneg n (show 0≤-k by omega);rw[Int.neg_tmod] at h2 h3;omega
 have hw:wrap64 (k.tmod n+n)=k.tmod n+n:=by unfold wrap64;omega
 have HW:Hid (wrap64 (k.tmod n+n)=k.tmod n+n):=hw;clear hr hw;go_enter Tryz.func9,Tryz.ntmps9
 go_wp2_with fail;exact bodyPost_ret (v:=.int .i64 ((wrap64 (k.tmod n+n)).tmod n)) (by simp[results,Tryz.results9,go_sem]) rfl ⟨by rw[HW.out],Below.refl _ _⟩
theorem pick_nat (a n:Nat):(((a:Int).tmod n+n).tmod n)=((a % n:Nat):Int):=by
 have h1:(a:Int).tmod n=((a % n:Nat):Int):=rfl;rw[h1];have h2:((a % n:Nat):Int)+(n:Int)=((a % n+n:Nat):Int):=by omega
 rw[h2];have h3:((a % n+n:Nat):Int).tmod n=(((a % n+n) % n:Nat):Int):=rfl;rw[h3,Nat.add_mod_right,Nat.mod_mod]
theorem rev_at {M:List Chg} {k:Nat} (hk:k<M.length):M.reverse.take (k+1)=M.reverse.take k++[M[M.length - 1 - k]'(by omega)]:=by
 rw[List.take_succ_eq_append_getElem (by rw[List.length_reverse];exact hk),List.getElem_reverse]
def turn (M:List Chg) (s:Nat):List Chg:=M.drop s++M.take s
theorem turn_len (M:List Chg) (s:Nat):(turn M s).length=M.length:=by unfold turn;rw[List.length_append,List.length_drop,List.length_take];omega
theorem turn_mem (M:List Chg) (s:Nat) (x:Chg):x∈turn M s↔x∈M:=by
 unfold turn;rw[List.mem_append,or_comm,←List.mem_append,List.take_append_drop]
theorem turn_at {M:List Chg} {s k:Nat} (hs:s<M.length) (hk:k<M.length):(turn M s).take (k+1)=(turn M s).take k++[M[(s+k) % M.length]'(Nat.mod_lt _ (by omega))]:=by
 rw[List.take_succ_eq_append_getElem (by rw[turn_len];exact hk)];congr 2;unfold turn;rw[List.getElem_append];split
 ·rename_i h;rw[List.length_drop] at h;rw[List.getElem_drop];congr 1;rw[Nat.mod_eq_of_lt (by omega)]
 ·rename_i h;rw[List.length_drop] at h;rw[List.getElem_take];congr 1;rw[List.length_drop,Nat.mod_eq_sub_mod (by omega),Nat.mod_eq_of_lt (by omega)];omega
def OB (L0 P:List Chg) (W:World) (g h q:Nat):Prop:=∃EH EW,Bk W g h q EH EW∧Inv (chgsOf EH)∧Tak L0 P (chgsOf EH) (chgsOf EW)
theorem OB.below {L0 P:List Chg} {W W':World} {g h q:Nat} (B:OB L0 P W g h q) (b:Below W.heap.size W W'):OB L0 P W' g h q:=by
 obtain⟨EH,EW,h1,h2⟩:=B;exact⟨EH,EW,h1.below b,h2⟩
theorem OB.fresh {L0:List Chg} {W:World} {g h q:Nat} (K:BookAt W g h q [] []):OB L0 [] W g h q:=⟨[],[],Bk.fresh K,Inv.nil,Tak.nil L0⟩
theorem OB.full {L0 P M:List Chg} {W:World} {g h q:Nat} (A:AllO L0 M) (hP:∀x,x∈P↔x∈M) (B:OB L0 P W g h q):∃EH,Bk W g h q EH []∧∀x,x∈chgsOf EH↔x∈M:=by
 obtain⟨EH,EW,h1,_,T⟩:=B;obtain⟨t1,t2⟩:=T.done A hP;obtain rfl:EW=[]:=List.map_eq_nil_iff.1 t1;exact⟨EH,h1,t2⟩
theorem ordersLaw_any (sv:Value) (st:List (List Int)) (tb:Int) (w:World) (hs:IsSteps w sv st):
 Calls Tryz.prog 3 #[sv,.int .i64 tb] w fun e w'=>e=.returned (.bool true)∧Below w.heap.size w w':=by
 have E1:=rChanges_any 3 sv st w (by decide) hs;rw[show((3:Nat):Int)=3 from rfl] at E1;clear hs;go_enter Tryz.func3,Tryz.ntmps3
 go_wp2_with fail;go_fit E1;rintro e w1 ⟨vo,es,L,rfl,hrow,heach,I,F,hL,A,hlen,b1⟩;clear E1;have A1:ArgH w1 vo es:=⟨rowC_chgs hrow (by omega) (fun p hp=>(heach p hp).chg),heach⟩
 obtain⟨a,cap,hvo,h1,h2,hz1,hz2⟩:=id A1.row;rw[List.length_map] at hvo;clear h1 h2 hz1 hz2;subst hvo;obtain⟨n,hn⟩:=gNz (es.length);obtain⟨M,hM⟩:=gNz (chgsOf es);have hMl:M.length=n:=by rw[←hM];unfold chgsOf;rw[List.length_map];exact hn
 rw[hM] at A;have HM:Hid (Inv L∧FInv L∧AllO L M∧M.length=n∧n≤120∧L.length≤120∧M.length=L.length∧chgsOf es=M):=⟨I,F,A,hMl,by omega,hL,by omega,hM⟩
 have HCK:Hid (∀c∈M,chk c=0):=fun c hc=>I.ok c (A.sub c hc);have HEN:Hid (es.length=n):=hn;rw[hn] at A1 ⊢;have HA1:Hid (ArgH w1 (.slice a n cap) es∧Below w.heap.size w w1):=⟨A1,b1⟩
 clear A1 b1 hn hrow heach I F hL A hlen hM hMl;have E2:=dnew_any w1;go_wp2_with fail;go_fit E2;rintro e w2 ⟨rfl,K2,b2⟩;clear E2;have HA2:Hid (ArgH w2 (.slice a n cap) es∧Below w.heap.size w w2):=⟨HA1.out.1.below b2,HA1.out.2.trans (b2.mono HA1.out.2.size)⟩
 have HLo:Hid (w.heap.size≤w1.heap.size):=HA1.out.2.size;clear b2 HA1;have E3:=takeX_any w2 (w1.heap.size+2) w1.heap.size (w1.heap.size+1) [] [] valH1 chgH1 (Bk.fresh K2) (valH1_chg w2) Inv.nil;have HK2:Hid (NoCells w2 [w1.heap.size,w1.heap.size+1]):=(Bk.fresh K2).noCells;clear K2;go_wp2_with fail;go_fit E3;rintro e w3 ⟨er,rfl,EH1,EW1,K3,_,kp3,_,T3,X3,_⟩;obtain⟨t3,rfl⟩:=take_first T3 X3;have HT3:Hid (EH1.length=1):=by
  have:=congrArg List.length t3;unfold chgsOf at this;rw[List.length_map] at this;exact this
 have HA3:Hid (ArgH w3 (.slice a n cap) es∧Below w.heap.size w w3):=⟨HA2.out.1.keep kp3 HK2.out,HA2.out.2.trans (kp3.below (fun x hx=>by have:=HLo.out;simp at hx;omega) HA2.out.2.size)⟩
 clear E3 T3 X3 kp3 t3 HA2 HK2 HLo;have E4:=all_any w3 _ _ _ EH1 EW1 K3;have HK3:=nodup_ents K3;have HK4:=K3.clo;clear K3;go_wp2_with fail;go_fit E4;rintro e w4 ⟨u,rfl,ts,D,fs,p1,r1,o1,_,e1,row1,m1,b4⟩;clear E4;obtain⟨a4,c4,rfl⟩:∃a c,u=.slice a 1 c:=by
  have h5:=(all_order HK3.1 HK4 p1 r1 o1 e1 (fun p hp=>(m1 p hp).2.2)).2;obtain⟨a,c,e⟩:=slice_rowM row1;rw[List.length_map,h5,HT3.out] at e;exact⟨a,c,e⟩
 have HA4:Hid (ArgH w4 (.slice a n cap) es∧Below w.heap.size w w4):=⟨HA3.out.1.below b4,HA3.out.2.trans (b4.mono HA3.out.2.size)⟩
 clear b4 p1 r1 o1 e1 row1 m1 HK3 HK4 HT3 HA3;go_upto_if 40 with fail
 go_cut [1] from 40 to 44 (fun b wx=>∃s:Nat,b=.int .i64 (if 0<n then (s:Int) else tb)∧Hid ((0<n→s<n)∧ArgH wx (.slice a n cap) es∧Below w.heap.size w wx))
 case first=>
  by_cases hn0:0<n
  ·have E5:=rPickX_any tb n w4 (by omega) (by have:=HM.out.2.2.2.2.1;omega);have hz:=pick_range tb n (by omega);obtain⟨s,hs⟩:=Int.eq_ofNat_of_zero_le hz.1;rw[hs] at E5;have HS:Hid (0<n∧s<n):=⟨hn0,by omega⟩
   clear hz hs;go_wp2_with fail;go_fit E5;rintro e w5 ⟨rfl,b5⟩;have HX:Hid (ArgH w5 (.slice a n cap) es∧Below w.heap.size w w5):=⟨HA4.out.1.below b5,HA4.out.2.trans (b5.mono HA4.out.2.size)⟩
   clear E5 b5;go_wp2_with fail;go_meet
   case rel=>exact⟨s,by rw[if_pos HS.out.1],fun _=>HS.out.2,HX.out⟩
  ·have HS:Hid (¬0<n):=hn0;go_wp2_with fail;go_meet
   case rel=>exact⟨0,by rw[if_neg HS.out],fun h=>absurd h HS.out,HA4.out⟩
 case rest=>
  obtain⟨s,rfl,hcut⟩:=hcut;generalize wc=w5 at *;obtain⟨tz,htz⟩:=gNz ((if 0<n then (s:Int) else tb):Int);rw[htz];have HTZ:Hid (0<n→tz=s∧s<n):=fun h=>⟨by rw[←htz,if_pos h],hcut.out.1 h⟩
  have H5:Hid (ArgH w5 (.slice a n cap) es∧Below w.heap.size w w5):=hcut.out.2;clear hcut htz HA4;have E6:=dnew_any w5;go_wp2_with fail;go_fit E6;rintro e w6 ⟨rfl,K6,b6⟩;clear E6;have HB:Hid (OB L [] w6 (w5.heap.size+2) w5.heap.size (w5.heap.size+1)∧ArgH w6 (.slice a n cap) es∧Below w.heap.size w w6):=⟨OB.fresh K6,H5.out.1.below b6,H5.out.2.trans (b6.mono H5.out.2.size)⟩
  have HLh:Hid (w.heap.size≤w5.heap.size∧w.heap.size≤w5.heap.size+1):=⟨H5.out.2.size,by have:=H5.out.2.size;omega⟩
  obtain⟨g,hg⟩:=gNz (w5.heap.size+2);obtain⟨h,hh⟩:=gNz (w5.heap.size);obtain⟨q,hq⟩:=gNz (w5.heap.size+1);rw[hg,hq,hh] at HB;rw[hq,hh] at HLh;rw[hg];clear K6 b6 H5 hg hh hq;go_wp2_with fail;go_loopw [10] (fun i wr=>∃k:Nat,k≤n∧i=.int .i64 k∧Hid (OB L (M.take k) wr g h q∧ArgH wr (.slice a n cap) es∧Below w.heap.size w wr)) (fun i _=>n - (RowKit.intOf i).toNat)
  case atStart=>exact⟨0,Nat.zero_le _,rfl,HB.out⟩
  case round=>
   clear HB;obtain⟨k,hk,rfl,hR⟩:=hrel;have g2:(k:Int)<1000001:=by have:=HM.out.2.2.2.2.1;omega
   have g3:(0:Int)≤k:=by omega
   by_cases hlt:k<n
   ·have g1:(k:Int)<n:=by omega
    obtain⟨p,b,off,ca,cs,ct,da,dn,dc,oa,on,oc,hp,hpm,hpw,rfl,hpv,x0,x1,x2,x3,x4⟩:=hR.out.2.1.at (k:=k) (by rw[HEN.out];exact hlt);obtain⟨EH,EW,B,IB,T⟩:=hR.out.1;have E7:=takeX_any wr g h q EH EW p.2 p.1 B hpw IB;rw[hpv] at E7;have HP:Hid (k<n∧∃hk':k<M.length,M[k]=p.1):=⟨hlt,by rw[HM.out.2.2.2.1];exact hlt,by
     have hM:=HM.out.2.2.2.2.2.2.2;subst hM;unfold chgsOf;rw[List.getElem_map,hp]⟩
    have HBT:Hid (Bk wr g h q EH EW∧Tak L (M.take k) (chgsOf EH) (chgsOf EW)):=⟨B,T⟩
    clear hp hpm hpw hpv hlt hk B IB T;go_wp2_with fail;go_fit E7;rintro e w7 ⟨er,rfl,hX⟩;obtain⟨_,hk',hp⟩:=HP.out;obtain⟨rfl,kp7,ob7⟩:=tak_step HM.out.1 HM.out.2.1 HM.out.2.2.2.2.2.1 HBT.out.1 HBT.out.2 (HM.out.2.2.1.sub _ (by rw[←hp];exact List.getElem_mem _)) hX;have HN:Hid (OB L (M.take (k+1)) w7 g h q∧ArgH w7 (.slice (some ⟨b,off,none⟩) n cap) es∧Below w.heap.size w w7):=⟨by
     rw[List.take_succ_eq_append_getElem hk',hp];exact ob7,hR.out.2.1.keep kp7 HBT.out.1.noCells,hR.out.2.2.trans (kp7.below (fun x hx=>by simp at hx;rcases hx with e | e <;> rw[e];exact HLh.out.1;exact HLh.out.2) hR.out.2.2.size)⟩
    clear E7 x0 x1 x2 x3 x4 hX kp7 ob7 hp hk' HBT hR;go_wp2_with fail;go_roundw
    case rel=>exact⟨k+1,HP.out.1,by go_num,HN.out⟩
    case measure=>simp[RowKit.intOf];have:=HP.out.1;omega
   ·have g1:¬(k:Int)<n:=by omega
    have HE:Hid ((∃EH,Bk wr g h q EH []∧∀x,x∈chgsOf EH↔x∈M)∧ArgH wr (.slice a n cap) es∧Below w.heap.size w wr):=⟨hR.out.1.full HM.out.2.2.1 (fun x=>by rw[List.take_of_length_le (by have:=HM.out.2.2.2.1;omega)]),hR.out.2⟩
    clear hlt hk hR g2 g3;obtain⟨EH,B,hiff⟩:=HE.out.1;have E8:=all_any wr g h q EH [] B;have HBI:Hid (Bk wr g h q EH []∧∀x,x∈chgsOf EH↔x∈M):=⟨B,hiff⟩
    clear B hiff;go_wp2_with fail;go_fit E8;rintro e w8 ⟨lv,rfl,hX⟩;clear E8;obtain⟨fs,A8,hfs,b8⟩:=all_es HM.out.1 HM.out.2.2.1 HM.out.2.2.2.2.2.2.1 HBI.out.1 HBI.out.2 hX;have H8:Hid (ArgH w8 lv fs∧chgsOf fs=M∧ArgH w8 (.slice a n cap) es∧Below w.heap.size w w8):=⟨A8,hfs,HE.out.2.1.below b8,HE.out.2.2.trans (b8.mono HE.out.2.2.size)⟩
    clear hX A8 hfs b8 HE HBI;have E9:=same_es H8.out.1 H8.out.2.2.1 (by rw[H8.out.2.1,HM.out.2.2.2.2.2.2.2]) (fun c hc=>HCK.out c (by rw[←H8.out.2.1];exact hc));go_wp2_with fail;go_fit E9;rintro e w9 ⟨rfl,b9⟩;clear E9;have H9:Hid (ArgH w9 lv fs∧chgsOf fs=M∧ArgH w9 (.slice a n cap) es∧Below w.heap.size w w9):=⟨H8.out.1.below b9,H8.out.2.1,H8.out.2.2.1.below b9,H8.out.2.2.2.trans (b9.mono H8.out.2.2.2.size)⟩
    clear b9 H8;have E10:=dnew_any w9;go_wp2_with fail;go_fit E10;rintro e w10 ⟨rfl,K10,b10⟩;clear E10;have E11:=dnew_any w10;have H10:Hid (OB L [] w10 (w9.heap.size+2) w9.heap.size (w9.heap.size+1)∧ArgH w10 lv fs∧ArgH w10 (.slice a n cap) es∧Below w.heap.size w w10∧w9.heap.size+1<w10.heap.size):=⟨OB.fresh K10,H9.out.1.below b10,H9.out.2.2.1.below b10,H9.out.2.2.2.trans (b10.mono H9.out.2.2.2.size),K10.wait.lt⟩
    have HF:Hid (chgsOf fs=M∧w.heap.size≤w9.heap.size):=⟨H9.out.2.1,H9.out.2.2.2.size⟩
    clear K10 b10 H9;go_wp2_with fail;go_fit E11;rintro e w11 ⟨rfl,K11,b11⟩;clear E11;have HB:Hid (OB L [] w11 (w9.heap.size+2) w9.heap.size (w9.heap.size+1)∧OB L [] w11 (w10.heap.size+2) w10.heap.size (w10.heap.size+1)∧ArgH w11 lv fs∧ArgH w11 (.slice a n cap) es∧Below w.heap.size w w11):=⟨H10.out.1.below b11,OB.fresh K11,H10.out.2.1.below b11,H10.out.2.2.1.below b11,H10.out.2.2.2.1.trans (b11.mono H10.out.2.2.2.1.size)⟩
    have HLo:Hid ((w.heap.size≤w9.heap.size∧w.heap.size≤w9.heap.size+1∧w.heap.size≤w10.heap.size∧w.heap.size≤w10.heap.size+1)∧(w9.heap.size≠w10.heap.size∧w9.heap.size≠w10.heap.size+1∧w9.heap.size+1≠w10.heap.size∧w9.heap.size+1≠w10.heap.size+1)):=by
     have h1:=HF.out.2;have h2:=H10.out.2.2.2.2;refine⟨⟨?_,?_,?_,?_⟩,?_,?_,?_,?_⟩ <;> omega
    obtain⟨g1',hg1⟩:∃z,w9.heap.size+2=z:=⟨_,rfl⟩
    obtain⟨h1',hh1⟩:∃z,w9.heap.size=z:=⟨_,rfl⟩
    obtain⟨q1',hq1⟩:∃z,w9.heap.size+1=z:=⟨_,rfl⟩
    obtain⟨g2',hg2⟩:∃z,w10.heap.size+2=z:=⟨_,rfl⟩
    obtain⟨h2',hh2⟩:∃z,w10.heap.size=z:=⟨_,rfl⟩
    obtain⟨q2',hq2⟩:∃z,w10.heap.size+1=z:=⟨_,rfl⟩
    rw[hg1,hq1,hg2,hq2,hh1,hh2] at HB;rw[hq1,hq2,hh1,hh2] at HLo;rw[hg1,hg2];clear K11 b11 H10 hg1 hh1 hq1 hg2 hh2 hq2 HLh;go_wp2_with fail;go_loopw [16] (fun i wr=>∃k:Nat,k≤n∧i=.int .i64 k∧Hid (OB L (M.reverse.take k) wr g1' h1' q1'∧OB L ((turn M s).take k) wr g2' h2' q2'∧ArgH wr lv fs∧ArgH wr (.slice a n cap) es∧Below w.heap.size w wr)) (fun i _=>n - (RowKit.intOf i).toNat)
    case atStart=>exact⟨0,Nat.zero_le _,rfl,HB.out⟩
    case round=>
     clear HB;obtain⟨k,hk,rfl,hR⟩:=hrel;have g2:(k:Int)<1000001:=by have:=HM.out.2.2.2.2.1;omega
     have g3:(0:Int)≤k:=by omega
     by_cases hlt:k<n
     ·have g1:(k:Int)<n:=by omega
      have hsn:=HTZ.out (by omega);obtain⟨hst,hsl⟩:=hsn;subst hst;have hnm:=HM.out.2.2.2.2.1;obtain⟨n1,hn1⟩:=gNz (n - 1:Nat);obtain⟨j,hj⟩:=gNz (n1 - k:Nat);obtain⟨t,ht⟩:=gNz (s+k:Nat);obtain⟨m,hm⟩:=gNz (t % n:Nat);have hml:m<n:=by rw[←hm];exact Nat.mod_lt _ (by omega)
      obtain⟨p,b,off,ca,cs,ct,da,dn,dc,oa,on,oc,hp,hpm,hpw,rfl,hpv,x0,x1,x2,x3,x4⟩:=hR.out.2.2.2.1.at (k:=j) (by rw[HEN.out];omega);obtain⟨EH,EW,B,IB,T⟩:=hR.out.1;have E12:=takeX_any wr g1' h1' q1' EH EW p.2 p.1 B hpw IB;rw[hpv] at E12;have HP:Hid ((k<n∧t % n=m∧m<n∧0<n∧n≤120∧s<n∧m=(s+k) % n)∧∃hj':M.length - 1 - k<M.length,M[M.length - 1 - k]=p.1):=⟨⟨hlt,hm,hml,by omega,hnm,hsl,by rw[ht,hm]⟩,by have:=HM.out.2.2.2.1;omega,by
       have hM:=HM.out.2.2.2.2.2.2.2;have hl:=HM.out.2.2.2.1;have e1:M.length - 1 - k=j:=by omega
       have e2:M[M.length - 1 - k]'(by omega)=M[j]'(by omega):=by congr 1
       rw[e2];subst hM;unfold chgsOf;rw[List.getElem_map,hp]⟩
      have HBT:Hid (Bk wr g1' h1' q1' EH EW∧Tak L (M.reverse.take k) (chgsOf EH) (chgsOf EW)):=⟨B,T⟩
      have hw1:wrap64 ((n:Int) - 1)=(n1:Int):=by unfold wrap64;omega
      have hw2:wrap64 ((n1:Int) - (k:Int))=(j:Int):=by unfold wrap64;omega
      have HW3:Hid (wrap64 ((s:Int)+(k:Int))=(t:Int)):=by show _=_;unfold wrap64;omega
      have gj:(j:Int)<n:=by omega
      have gj0:(0:Int)≤j:=by omega
      have gm:(m:Int)<n:=by omega
      have gm0:(0:Int)≤m:=by omega
      clear hp hpm hpw hpv hlt hk B IB T hn1 hj ht hm hml hnm hsl;go_wp2_with fail;go_fit E12;rintro e w12 ⟨er,rfl,hX⟩;have HX12:Hid (er=.nilIface∧OB L (M.reverse.take (k+1)) w12 g1' h1' q1'∧OB L ((turn M s).take k) w12 g2' h2' q2'∧ArgH w12 lv fs∧ArgH w12 (.slice (some ⟨b,off,none⟩) n cap) es∧Below w.heap.size w w12):=by
       obtain⟨hh,hj',hp⟩:=HP.out;obtain⟨e1,kp,ob⟩:=tak_step HM.out.1 HM.out.2.1 HM.out.2.2.2.2.2.1 HBT.out.1 HBT.out.2 (HM.out.2.2.1.sub _ (by rw[←hp];exact List.getElem_mem _)) hX;obtain⟨EH2,EW2,B2,I2,T2⟩:=hR.out.2.1;refine⟨e1,by rw[rev_at (by have:=HM.out.2.2.2.1;omega),hp];exact ob,⟨EH2,EW2,B2.side kp HBT.out.1.noCells (by have:=HLo.out.2;simp;omega) (by have:=HLo.out.2;simp;omega),I2,T2⟩,hR.out.2.2.1.keep kp HBT.out.1.noCells,hR.out.2.2.2.1.keep kp HBT.out.1.noCells,hR.out.2.2.2.2.trans (kp.below (fun x hx=>by have:=HLo.out.1;simp at hx;omega) hR.out.2.2.2.2.size)⟩
      obtain rfl:er=.nilIface:=HX12.out.1;clear E12 x0 x1 x2 x3 x4 hX HBT hR hw1 hw2 gj gj0;have hw3:wrap64 ((s:Int)+(k:Int))=(t:Int):=HW3.out;have E13:=rPickX_any (t:Int) (n:Int) w12 (by have:=HP.out.1.2.2.2.1;omega) (by have:=HP.out.1.2.2.2.2.1;omega);rw[pick_nat t n,HP.out.1.2.1] at E13;go_wp2_with fail;go_fit E13;rintro e w13 ⟨rfl,b13⟩;clear E13 hw3 HW3;have H13:Hid (OB L (M.reverse.take (k+1)) w13 g1' h1' q1'∧OB L ((turn M s).take k) w13 g2' h2' q2'∧ArgH w13 lv fs∧ArgH w13 (.slice (some ⟨b,off,none⟩) n cap) es∧Below w.heap.size w w13):=⟨HX12.out.2.1.below b13,HX12.out.2.2.1.below b13,HX12.out.2.2.2.1.below b13,HX12.out.2.2.2.2.1.below b13,HX12.out.2.2.2.2.2.trans (b13.mono HX12.out.2.2.2.2.2.size)⟩
      clear b13 HX12;obtain⟨p2,b2,off2,ca,cs,ct,da,dn,dc,oa,on,oc,hp,hpm,hpw,haa,hpv,x0,x1,x2,x3,x4⟩:=H13.out.2.2.2.1.at (k:=m) (by rw[HEN.out];exact HP.out.1.2.2.1);obtain⟨e7,e8,e9⟩:=Addr.mk.inj (Option.some.inj haa);subst e7;subst e8;clear e9 haa;obtain⟨EH,EW,B,IB,T⟩:=H13.out.2.1;have E14:=takeX_any w13 g2' h2' q2' EH EW p2.2 p2.1 B hpw IB;rw[hpv] at E14;have HP2:Hid (∃hm':(s+k) % M.length<M.length,M[(s+k) % M.length]=p2.1):=⟨Nat.mod_lt _ (by have:=HM.out.2.2.2.1;have:=HP.out.1;omega),by
       have hM:=HM.out.2.2.2.2.2.2.2;have hl:=HM.out.2.2.2.1;have hmn:=HP.out.1.2.2.1;have e1:(s+k) % M.length=m:=by rw[hl,←HP.out.1.2.2.2.2.2.2]
       have e2:M[(s+k) % M.length]'(by rw[e1,hl];exact hmn)=M[m]'(by rw[hl];exact hmn):=by congr 1
       rw[e2];subst hM;unfold chgsOf;rw[List.getElem_map,hp]⟩
      have HBT:Hid (Bk w13 g2' h2' q2' EH EW∧Tak L ((turn M s).take k) (chgsOf EH) (chgsOf EW)):=⟨B,T⟩
      clear hp hpm hpw hpv B IB T;go_wp2_with fail;go_fit E14;rintro e w14 ⟨er,rfl,hX⟩;have HX14:Hid (er=.nilIface∧OB L (M.reverse.take (k+1)) w14 g1' h1' q1'∧OB L ((turn M s).take (k+1)) w14 g2' h2' q2'∧ArgH w14 lv fs∧ArgH w14 (.slice (some ⟨b,off,none⟩) n cap) es∧Below w.heap.size w w14):=by
       obtain⟨hm',hp⟩:=HP2.out;have hl:=HM.out.2.2.2.1;obtain⟨e1,kp,ob⟩:=tak_step HM.out.1 HM.out.2.1 HM.out.2.2.2.2.2.1 HBT.out.1 HBT.out.2 (HM.out.2.2.1.sub _ (by rw[←hp];exact List.getElem_mem _)) hX;obtain⟨EH2,EW2,B2,I2,T2⟩:=H13.out.1;refine⟨e1,⟨EH2,EW2,B2.side kp HBT.out.1.noCells (by have:=HLo.out.2;simp;omega) (by have:=HLo.out.2;simp;omega),I2,T2⟩,by rw[turn_at (by have:=HP.out.1;omega) (by have:=HP.out.1;omega),hp];exact ob,H13.out.2.2.1.keep kp HBT.out.1.noCells,H13.out.2.2.2.1.keep kp HBT.out.1.noCells,H13.out.2.2.2.2.trans (kp.below (fun x hx=>by have:=HLo.out.1;simp at hx;omega) H13.out.2.2.2.2.size)⟩
      obtain rfl:er=.nilIface:=HX14.out.1;clear E14 x0 x1 x2 x3 x4 hX HBT H13 gm gm0;go_wp2_with fail;go_roundw
      case rel=>exact⟨k+1,HP.out.1.1,by go_num,HX14.out.2⟩
      case measure=>simp[RowKit.intOf];have:=HP.out.1.1;omega
     ·have g1:¬(k:Int)<n:=by omega
      have HE:Hid ((∃EH,Bk wr g1' h1' q1' EH []∧∀x,x∈chgsOf EH↔x∈M)∧(∃EH,Bk wr g2' h2' q2' EH []∧∀x,x∈chgsOf EH↔x∈M)∧ArgH wr lv fs∧Below w.heap.size w wr):=by
       have hl:=HM.out.2.2.2.1;exact⟨hR.out.1.full HM.out.2.2.1 (fun x=>by rw[List.take_of_length_le (by rw[List.length_reverse];omega),List.mem_reverse]),hR.out.2.1.full HM.out.2.2.1 (fun x=>by rw[List.take_of_length_le (by rw[turn_len];omega),turn_mem]),hR.out.2.2.1,hR.out.2.2.2.2⟩
      clear hlt hk hR g2 g3;obtain⟨EB,BB,hbi⟩:=HE.out.1;obtain⟨EC,BC,hci⟩:=HE.out.2.1;have E15:=all_any wr g1' h1' q1' EB [] BB;have HBI:Hid ((Bk wr g1' h1' q1' EB []∧∀x,x∈chgsOf EB↔x∈M)∧Bk wr g2' h2' q2' EC []∧∀x,x∈chgsOf EC↔x∈M):=⟨⟨BB,hbi⟩,BC,hci⟩
      clear BB hbi BC hci;go_wp2_with fail;go_fit E15;rintro e w15 ⟨xv,rfl,hX⟩;clear E15;obtain⟨xs,A15,hxs,b15⟩:=all_es HM.out.1 HM.out.2.2.1 HM.out.2.2.2.2.2.2.1 HBI.out.1.1 HBI.out.1.2 hX;have H15:Hid (ArgH w15 xv xs∧chgsOf xs=M∧Bk w15 g1' h1' q1' EB []∧Bk w15 g2' h2' q2' EC []∧ArgH w15 lv fs∧Below w.heap.size w w15):=⟨A15,hxs,HBI.out.1.1.below b15,HBI.out.2.1.below b15,HE.out.2.2.1.below b15,HE.out.2.2.2.trans (b15.mono HE.out.2.2.2.size)⟩
      clear hX A15 hxs b15 HE;have E16:=all_any w15 g2' h2' q2' EC [] H15.out.2.2.2.1;go_wp2_with fail;go_fit E16;rintro e w16 ⟨yv,rfl,hX⟩;clear E16;obtain⟨ys,A16,hys,b16⟩:=all_es HM.out.1 HM.out.2.2.1 HM.out.2.2.2.2.2.2.1 H15.out.2.2.2.1 HBI.out.2.2 hX;have H16:Hid (ArgH w16 xv xs∧chgsOf xs=M∧ArgH w16 yv ys∧chgsOf ys=M∧Bk w16 g1' h1' q1' EB []∧ArgH w16 lv fs∧Below w.heap.size w w16):=⟨H15.out.1.below b16,H15.out.2.1,A16,hys,H15.out.2.2.1.below b16,H15.out.2.2.2.2.1.below b16,H15.out.2.2.2.2.2.trans (b16.mono H15.out.2.2.2.2.2.size)⟩
      clear hX A16 hys b16 H15 HBI;have E17:=same_es H16.out.1 H16.out.2.2.2.2.2.1 (by rw[H16.out.2.1,HF.out.1]) (fun c hc=>HCK.out c (by rw[←H16.out.2.1];exact hc));go_wp2_with fail;go_fit E17;rintro e w17 ⟨rfl,b17⟩;clear E17;have H17:Hid (ArgH w17 yv ys∧chgsOf ys=M∧Bk w17 g1' h1' q1' EB []∧ArgH w17 lv fs∧Below w.heap.size w w17):=⟨H16.out.2.2.1.below b17,H16.out.2.2.2.1,H16.out.2.2.2.2.1.below b17,H16.out.2.2.2.2.2.1.below b17,H16.out.2.2.2.2.2.2.trans (b17.mono H16.out.2.2.2.2.2.2.size)⟩
      clear b17 H16;have E18:=same_es H17.out.1 H17.out.2.2.2.1 (by rw[H17.out.2.1,HF.out.1]) (fun c hc=>HCK.out c (by rw[←H17.out.2.1];exact hc));go_wp2_with fail;go_fit E18;rintro e w18 ⟨rfl,b18⟩;clear E18;have H18:Hid (Bk w18 g1' h1' q1' EB []∧Below w.heap.size w w18):=⟨H17.out.2.2.1.below b18,H17.out.2.2.2.2.trans (b18.mono H17.out.2.2.2.2.size)⟩
      clear b18 H17;have E19:=waiting_any g1' h1' q1' (ents EB) (ents []) w18 H18.out.1.book (by simp[ents]);go_wp2_with fail;go_fit E19;rintro e w19 ⟨wv,ts,rfl,hp,-,row,b19⟩;obtain⟨a19,c19,rfl⟩:∃a c,wv=.slice a 0 c:=by
       have h1:=hp.length_eq;obtain⟨a,c,e⟩:=slice_rowM row;rw[h1] at e;exact⟨a,c,e⟩
      have HEND:Hid (Below w.heap.size w w19):=H18.out.2.trans (b19.mono H18.out.2.size);clear E19 hp row b19 H18;go_wp2_with fail;go_ret;exact⟨rfl,HEND.out⟩
end Go.Proofs.YtamhlgflbacjgaaGreat
namespace Go.Proofs.YtamhlgflbacjgaaGreat
open Go.ChangeShapes Go.WideShapes Go.ChangeAt Go.RowKit Go.Deep
theorem ownNone:ownKnob Tryz.prog.godebug=none:=by kernel_rfl
theorem at_cellH {w:World} {a:Addr} {v:Value} (h:w.cell? a=some v):a.spot=none∧a.block<w.heap.size:=by
 obtain⟨b,o,s⟩:=a;unfold World.cell? at h;simp only at h ⊢;rcases Nat.lt_or_ge b w.heap.size with hb | hb
 ·refine⟨?_,hb⟩;cases s with
  | none=>rfl
  | some x=>
   split at h
   ·simp at h
   ·cases h
 ·rw[Array.getElem?_eq_none hb] at h;simp at h
theorem add_atH (b off i:Nat):(⟨b,off,none⟩:Addr).add i=⟨b,off+i,none⟩:=by unfold Addr.add;split <;> simp_all
theorem i64_ofH {n:Int} (h:(Lit.int .i64 n).wf=true):I64 n:=by
 simp[Lit.wf,IntKind.min,IntKind.max,IntKind.bits,IntKind.signed] at h;unfold I64;omega
theorem cellsS:Tryz.prog.cellsOf 53=1:=by kernel_rfl
theorem open_stepsH {H:Type} {enc:TypeId×Value→H} {W:World} {b0 base:Nat} {held:Bool} {v:Value} {d:DataW H} {p:List MemPlace}
 (hv:Value.okWide Tryz.prog W .any b0 22 v) (h:DataW.Trod enc Tryz.prog W base (fun _=>true) held 22 v d p):∃ls,IsSteps W v ls:=by
 obtain⟨a0,len0,cap0,rfl⟩:=okWide_slice Tryz.underlying22 hv;obtain⟨fuel,hf⟩:=h;rcases open_int_rows Tryz.underlying22 Tryz.underlying53 Tryz.underlying3 cellsS cells3 hf with⟨hcs,_⟩ | ⟨a,len,cap,A,L,C,Z,hcs,_,hl,_,hx,hall⟩
 ·simp[Value.cells] at hcs;obtain⟨rfl,rfl,rfl⟩:=hcs;exact⟨[],none,0,rfl,by simp,fun h=>absurd rfl h⟩
 ·simp[Value.cells] at hcs;obtain⟨rfl,rfl,rfl⟩:=hcs;refine⟨(List.range len0).map fun r=>(Z r).take (L r),some a,cap0,by simp,by simpa using hl,fun hne=>?_⟩;have h0:0<len0:=by
   rcases Nat.eq_zero_or_pos len0 with e | e
   ·subst e;simp at hne
   ·exact e
  obtain⟨hs,hb⟩:=at_cellH (hall 0 (by omega)).1;obtain⟨b,off,s⟩:=a;have hs':s=none:=by simpa [Addr.add] using hs
  subst hs';refine⟨b,off,rfl,by simpa [Addr.add] using hb,fun i hi=>?_⟩;have hi':i<len0:=by simpa using hi
  obtain⟨c1,c2,c3,c4,c5,c6,c7⟩:=hall i (by omega);rw[add_atH] at c1;refine⟨_,c1,?_⟩;rw[List.getElem_map,List.getElem_range];have hlen:((Z i).take (L i)).length=L i:=by rw[List.length_take];omega
  refine⟨A i,C i,by rw[hlen],by rw[hlen];exact c2,fun x hx=>i64_ofH (c5 x (List.mem_of_mem_take hx)),fun hne2=>?_⟩;have hL0:0<L i:=by
   rcases Nat.eq_zero_or_pos (L i) with e | e
   ·rw[e] at hne2;simp at hne2
   ·exact e
  cases hA:A i with
  | none=>have:=c6 hA;omega
  | some a'=>
   obtain⟨_,c8⟩:=c7 a' hA;obtain⟨hs2,hb2⟩:=at_cellH (c8 0 (by omega));obtain⟨b2,off2,s2⟩:=a';have hs2':s2=none:=by simpa [Addr.add] using hs2
   subst hs2';refine⟨b2,off2,rfl,by simpa [Addr.add] using hb2,fun k hk=>?_⟩;have hk':k<L i:=by rw[hlen] at hk;exact hk
   have h9:=c8 k (by omega);rw[add_atH] at h9;rw[h9,List.getElem_take];simp[show k<(Z i).length by omega]
end Go.Proofs.YtamhlgflbacjgaaGreat
