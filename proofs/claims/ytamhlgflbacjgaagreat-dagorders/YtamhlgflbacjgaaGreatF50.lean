/-
  What is proved: as each theorem says.
  Conditions: as each theorem says.
-/
import Derived.Test.YtamhlgflbacjgaaGreatF00
import Derived.Test.YtamhlgflbacjgaaGreatF49
import Derived.Test.YtamhlgflbacjgaaGreatF24
import Derived.Test.YtamhlgflbacjgaaGreatF45
import Derived.Test.YtamhlgflbacjgaaGreatF48
import Derived.Test.YtamhlgflbacjgaaGreatF47
set_option maxRecDepth 100000
set_option maxHeartbeats 16000000
namespace Go.Proofs.YtamhlgflbacjgaaGreat
open Go.RowKit Go.Sort
theorem own_maps {S:List Nat} {B e s n:Nat} {w w':World} {v:Value} {xs:List Value} (h:w.ownsRow B e s v n xs) (k:Kp S w w') (hS:∀b∈S,∃es t,w.heap[b]?=some (.map es t)):w'.ownsRow B e s v n xs:=by
 refine⟨h.1,?_⟩;rcases h.2 with h0 | ⟨g,cap,cur,h1,h2,h3,h4⟩
 ·exact Or.inl h0
 ·exact Or.inr ⟨g,cap,cur,h1,h2,k.heap h3 (fun e=>by
   obtain⟨es,t,h5⟩:=hS g e;rw[h3] at h5;cases h5),h4⟩
theorem IsChgH.maps {S:List Nat} {B:Nat} {w w':World} {v:Value} {c:Chg} (h:IsChgH B w v c) (k:Kp S w w') (hS:∀b∈S,∃es t,w.heap[b]?=some (.map es t)):IsChgH B w' v c:=h.rows fun _ _ _ _ _ _ r=>own_maps r k hS
theorem Bk.maps {w:World} {g h q:Nat} {EH EW:List CE} (B:Bk w g h q EH EW):∀b∈[h,q],∃es t,w.heap[b]?=some (.map es t):=fun b hb=>by
 simp only[List.mem_cons,List.not_mem_nil,or_false] at hb;rcases hb with rfl | rfl
 ·obtain⟨D,⟨es,t,h0,_⟩,_⟩:=B.book.has.own;exact⟨es,t,h0⟩
 ·obtain⟨D,⟨es,t,h0,_⟩,_⟩:=B.book.wait.own;exact⟨es,t,h0⟩
structure ErrX (L W:List Chg) (c:Chg) (er:Value):Prop where
 bad:chk c≠0→er=errV (chk c)
 old:chk c=0→(c∈L∨c∈W)→er=.nilIface
 full:chk c=0→¬(c.ref∈refsOf L∨c.ref∈refsOf W)→120≤L.length+W.length→er=errV 4
 wait:chk c=0→¬(c.ref∈refsOf L∨c.ref∈refsOf W)→L.length+W.length<120→¬Ready L c→er=.nilIface
 unfit:chk c=0→¬(c.ref∈refsOf L∨c.ref∈refsOf W)→L.length+W.length<120→Ready L c→¬FitC L c→er=errV 7
 take:chk c=0→¬(c.ref∈refsOf L∨c.ref∈refsOf W)→L.length+W.length<120→Ready L c→FitC L c→er=.nilIface
section
variable {L W L' W' : List Chg} {c : Chg} {er : Value}
theorem old_in (h:c∈L∨c∈W):c.ref∈refsOf L∨c.ref∈refsOf W:=h.imp (fun h=>mem_refs.2 ⟨c,h,rfl⟩) (fun h=>mem_refs.2 ⟨c,h,rfl⟩)
theorem take_bad (h:chk c≠0) (he:er=errV (chk c)):TakeR L W c L W∧ErrX L W c er:=
 ⟨⟨fun _=>⟨rfl,rfl⟩,fun e=>absurd e h,fun e=>absurd e h,fun e=>absurd e h,fun e=>absurd e h,fun e=>absurd e h⟩,⟨fun _=>he,fun e=>absurd e h,fun e=>absurd e h,fun e=>absurd e h,fun e=>absurd e h,fun e=>absurd e h⟩⟩
theorem take_old (h:chk c=0) (h2:c.ref∈refsOf L∨c.ref∈refsOf W) (he:c∈L∨c∈W→er=.nilIface):TakeR L W c L W∧ErrX L W c er:=
 ⟨⟨fun e=>absurd h e,fun _ _=>⟨rfl,rfl⟩,fun _ e=>absurd h2 e,fun _ e=>absurd h2 e,fun _ e=>absurd h2 e,fun _ e=>absurd h2 e⟩,⟨fun e=>absurd h e,fun _ e=>he e,fun _ e=>absurd h2 e,fun _ e=>absurd h2 e,fun _ e=>absurd h2 e,fun _ e=>absurd h2 e⟩⟩
theorem take_full (h:chk c=0) (h2:¬(c.ref∈refsOf L∨c.ref∈refsOf W)) (h3:120≤L.length+W.length) (he:er=errV 4):TakeR L W c L W∧ErrX L W c er:=
 ⟨⟨fun e=>absurd h e,fun _ e=>absurd e h2,fun _ _ _=>⟨rfl,rfl⟩,fun _ _ e=>by omega,fun _ _ e=>by omega,fun _ _ e=>by omega⟩,⟨fun e=>absurd h e,fun _ e=>absurd (old_in e) h2,fun _ _ _=>he,fun _ _ e=>by omega,fun _ _ e=>by omega,fun _ _ e=>by omega⟩⟩
theorem take_wait (h:chk c=0) (h2:¬(c.ref∈refsOf L∨c.ref∈refsOf W)) (h3:L.length+W.length<120) (h4:¬Ready L c) (he:er=.nilIface):TakeR L W c L (W++[c])∧ErrX L W c er:=
 ⟨⟨fun e=>absurd h e,fun _ e=>absurd e h2,fun _ _ e=>by omega,fun _ _ _ _=>⟨rfl,rfl⟩,fun _ _ _ e=>absurd e h4,fun _ _ _ e=>absurd e h4⟩,⟨fun e=>absurd h e,fun _ e=>absurd (old_in e) h2,fun _ _ e=>by omega,fun _ _ _ _=>he,fun _ _ _ e=>absurd e h4,fun _ _ _ e=>absurd e h4⟩⟩
theorem take_unfit (h:chk c=0) (h2:¬(c.ref∈refsOf L∨c.ref∈refsOf W)) (h3:L.length+W.length<120) (h4:Ready L c) (h5:¬FitC L c) (he:er=errV 7):TakeR L W c L W∧ErrX L W c er:=
 ⟨⟨fun e=>absurd h e,fun _ e=>absurd e h2,fun _ _ e=>by omega,fun _ _ _ e=>absurd h4 e,fun _ _ _ _ _=>⟨rfl,rfl⟩,fun _ _ _ _ e=>absurd e h5⟩,⟨fun e=>absurd h e,fun _ e=>absurd (old_in e) h2,fun _ _ e=>by omega,fun _ _ _ e=>absurd h4 e,fun _ _ _ _ _=>he,fun _ _ _ _ e=>absurd e h5⟩⟩
theorem take_take (h:chk c=0) (h2:¬(c.ref∈refsOf L∨c.ref∈refsOf W)) (h3:L.length+W.length<120) (h4:Ready L c) (h5:FitC L c) (hw:WakeR (L++[c]) W L' W') (he:er=.nilIface):TakeR L W c L' W'∧ErrX L W c er:=
 ⟨⟨fun e=>absurd h e,fun _ e=>absurd e h2,fun _ _ e=>by omega,fun _ _ _ e=>absurd h4 e,fun _ _ _ _ e=>absurd h5 e,fun _ _ _ _ _=>hw⟩,⟨fun e=>absurd h e,fun _ e=>absurd (old_in e) h2,fun _ _ e=>by omega,fun _ _ _ e=>absurd h4 e,fun _ _ _ _ e=>absurd h5 e,fun _ _ _ _ _=>he⟩⟩
end
def TakeX (w:World) (g h q:Nat) (EH EW:List CE) (c:Chg) (er:Value) (w':World):Prop:=
 ∃EH' EW',Bk w' g h q EH' EW'∧EH <+: EH'∧Kp [h,q] w w'∧Inv (chgsOf EH')∧TakeR (chgsOf EH) (chgsOf EW) c (chgsOf EH') (chgsOf EW')∧ErrX (chgsOf EH) (chgsOf EW) c er∧∀x∈EH'++EW',x∈EH++EW∨IsChgH w.heap.size w' x.2 x.1
theorem takeX_any (w:World) (g h q:Nat) (EH EW:List CE) (v:Value) (c:Chg) (B:Bk w g h q EH EW) (hv:IsChgW w v c) (I:Inv (chgsOf EH)):
 Calls Tryz.prog 7 #[.pointer (some ⟨g,0,none⟩),v] w fun e w'=>∃er,e=.returned er∧TakeX w g h q EH EW c er w':=by
 obtain⟨ud,uo,lo,rfl,hi,hdp,hop,hlo,wd,wo,wq⟩:=id hv;obtain⟨da,dc,rfl,_⟩:=id hdp;obtain⟨oa,oc,rfl,_⟩:=id hop;have b0:=bAl w (.cells #[.int .i64 c.actor,.int .i64 c.seq,.int .i64 c.start,.slice da c.deps.length dc,.slice oa lo.length oc] 33);have x0:=heap_alloc_new w (.cells #[.int .i64 c.actor,.int .i64 c.seq,.int .i64 c.start,.slice da c.deps.length dc,.slice oa lo.length oc] 33);have E1:=check_any _ c _ (hv.below b0).chg;obtain⟨on,hon⟩:=gNz (lo.length);obtain⟨dn,hdn⟩:=gNz (c.deps.length);obtain⟨ca,hca⟩:=gNz (c.actor);obtain⟨cs,hcs⟩:=gNz (c.seq);obtain⟨ct,hct⟩:=gNz (c.start);rw[hca,hcs,hct,hon,hdn] at b0 x0 E1 hv ⊢;rw[hdn] at hdp;have HN:Hid (c.ref=(ca,cs)∧c.deps.length=dn):=⟨by unfold Chg.ref;rw[hca,hcs],hdn⟩
 have HI:Hid (R64 (ca,cs)):=⟨by rw[←hca];exact hi.1,by rw[←hcs];exact hi.2.1⟩
 have HA:Hid (Bk w g h q EH EW∧IsChgW w (.agg #[.int .i64 ca,.int .i64 cs,.int .i64 ct,.slice da dn dc,.slice oa on oc]) c∧IsPairs w (.slice da dn dc) c.deps):=⟨B,hv,hdp⟩
 have HX:Hid (_∧_):=⟨b0,x0⟩
 clear B hv hdp hop hlo wd wo wq hi b0 x0 hca hcs hct hon hdn;have HS:Hid (∀{W:World} {er:Value},Below w.heap.size w W→TakeR (chgsOf EH) (chgsOf EW) c (chgsOf EH) (chgsOf EW)∧ErrX (chgsOf EH) (chgsOf EW) c er→TakeX w g h q EH EW c er W):=fun {W er} b e1=>
  ⟨EH,EW,HA.out.1.below b,List.prefix_refl _,Kp.of b,I,e1.1,e1.2,fun _ h=>Or.inl h⟩
 have HIV:Hid (Inv (chgsOf EH)):=I;clear I;obtain⟨ce,hce⟩:=gNz (chk c);rw[hce] at E1;go_enter Tryz.func7,Tryz.ntmps7
 go_wp2_with fail;go_fit E1;rintro e w1 ⟨rfl,b1⟩;by_cases h0:ce=0
 ·subst h0;have HC:Hid (chk c=0):=hce;have e0:errV 0=.nilIface:=rfl;rw[e0];have X1:=heap_below HX.out.2 b1 lRf;have B1:Below w.heap.size w w1:=HX.out.1.trans (b1.mono HX.out.1.size);clear hce e0 E1 HX b1;obtain⟨x0,x1,x2,x3,x4,-⟩:=cLs X1;have zx:=lt_of_heap X1;have E4:=refOf_any ca cs ct da dn dc oa on oc w1;have H1:Hid (_∧_):=⟨X1,B1⟩
  clear X1 B1;go_wp2_with fail;go_fit E4;rintro e w2 ⟨rfl,b2⟩;clear E4 x0 x1 x2 x3 x4 zx;have bR:=b2.alloc b2.size (.cells #[.int .i64 ca,.int .i64 cs] 45);have R2:=heap_alloc_new w2 (.cells #[.int .i64 ca,.int .i64 cs] 45);obtain⟨W,hW⟩:∃W,W=w2.alloc (.cells #[.int .i64 ca,.int .i64 cs] 45):=⟨_,rfl⟩
  rw[←hW] at bR R2;have BW:Below w.heap.size w W:=H1.out.2.trans (bR.mono H1.out.2.size);have XW:=heap_below H1.out.1 bR lRf;have E5:=find_any g h q (ents EH) (ents EW) (ca,cs) W (HA.out.1.below BW).book HI.out (HA.out.1.below BW).cvH (HA.out.1.below BW).cvW;obtain⟨fb,hfb⟩:=gNz ((fnd (ents EH) (ents EW) (ca,cs)).isSome:Bool);obtain⟨va,vs,vt,vd,vn,vc,vo,vm,ve,hvv⟩:CV ((fnd (ents EH) (ents EW) (ca,cs)).getD zC):=by
   unfold fnd;cases hl:lk (ents EH) (ca,cs) with
   | none=>simpa using cv_look (HA.out.1.below BW).cvW (ca,cs)
   | some u=>simpa using (HA.out.1.below BW).cvH _ (lk_mem hl)
  rw[hfb,hvv] at E5;have H2:Hid (_∧_∧_):=⟨XW,BW,R2⟩
  have HF:Hid (_∧_):=⟨hfb,hvv⟩
  rw[hW] at E5;clear b2 bR R2 XW BW hfb hvv H1;go_wp2_with fail;go_fit E5;rintro e w3 ⟨rfl,b3⟩;rw[←hW] at b3;clear E5;have HWs:Hid (W=_):=hW;clear hW;have bO:=b3.alloc b3.size (.cells #[.int .i64 va,.int .i64 vs,.int .i64 vt,.slice vd vn vc,.slice vo vm ve] 33);have OB:=heap_alloc_new w3 (.cells #[.int .i64 va,.int .i64 vs,.int .i64 vt,.slice vd vn vc,.slice vo vm ve] 33);have XO:=heap_below H2.out.1 bO lRf;have RO:=heap_below H2.out.2.2 bO lRf;have BO:Below w.heap.size w _:=H2.out.2.1.trans (bO.mono H2.out.2.1.size);have H3:Hid (_∧_∧_∧_):=⟨XO,RO,OB,BO⟩
  clear bO OB XO RO BO b3 H2;cases fb with
  | true=>
   go_upto_region 7 with fail
   obtain⟨XO,RO,OB,BO⟩:=H3.out;clear H3;generalize w3.alloc (.cells #[.int .i64 va,.int .i64 vs,.int .i64 vt,.slice vd vn vc,.slice vo vm ve] 33)=V at *;obtain⟨x0,x1,x2,x3,x4,-⟩:=cLs XO;obtain⟨o0,o1,o2,o3,o4,-⟩:=cLs OB;have zx:=lt_of_heap XO;have zo:=lt_of_heap OB;obtain⟨c',hc',hcc⟩:∃c',IsChg w (.agg #[.int .i64 va,.int .i64 vs,.int .i64 vt,.slice vd vn vc,.slice vo vm ve]) c'∧(c∈chgsOf EH∨c∈chgsOf EW→c'=c)∧(c.ref∈refsOf (chgsOf EH)∨c.ref∈refsOf (chgsOf EW)):=by
    have h1:=HF.out.1;have h2:=HF.out.2;unfold fnd at h1 h2;have hnd:=nodup_ents HA.out.1;cases hl:lk (ents EH) (ca,cs) with
    | some u=>
     rw[hl] at h2;simp at h2;subst h2;obtain⟨c',hm,hr⟩:=lk_ents hl;have hin:c.ref∈refsOf (chgsOf EH):=by
      rw[HN.out.1,←hr];exact mem_refs.2 ⟨c',mem_chgs.2 ⟨_,hm,rfl⟩,rfl⟩
     refine⟨c',(HA.out.1.chgs _ (List.mem_append_left _ hm)).1.chg,fun hcm=>?_,Or.inl hin⟩;rcases hcm with hcm | hcm
     ·exact refs_inj (L:=chgsOf EH) (by rw[refs_chgs];exact hnd.1) (mem_chgs.2 ⟨_,hm,rfl⟩) hcm (hr.trans HN.out.1.symm)
     ·exfalso;have h5:c.ref∈EW.map (·.1.ref):=by rw[←refs_chgs];exact mem_refs.2 ⟨c,hcm,rfl⟩
      rw[refs_chgs] at hin;exact HA.out.1.dis _ h5 hin
    | none=>
     rw[hl] at h1 h2;simp at h1 h2;cases hl2:lk (ents EW) (ca,cs) with
     | none=>rw[hl2] at h1;simp at h1
     | some u=>
      rw[hl2] at h2;simp at h2;subst h2;obtain⟨c',hm,hr⟩:=lk_ents hl2;have hin:c.ref∈refsOf (chgsOf EW):=by
       rw[HN.out.1,←hr];exact mem_refs.2 ⟨c',mem_chgs.2 ⟨_,hm,rfl⟩,rfl⟩
      refine⟨c',(HA.out.1.chgs _ (List.mem_append_right _ hm)).1.chg,fun hcm=>?_,Or.inr hin⟩;rcases hcm with hcm | hcm
      ·exfalso;have h5:(ca,cs)∈EH.map (·.1.ref):=by rw[←HN.out.1,←refs_chgs];exact mem_refs.2 ⟨c,hcm,rfl⟩
       rw[mem_keys,hl] at h5;simp at h5
      ·exact refs_inj (L:=chgsOf EW) (by rw[refs_chgs];exact hnd.2) (mem_chgs.2 ⟨_,hm,rfl⟩) hcm (hr.trans HN.out.1.symm)
   have E6:=clash_any _ _ c' c V (hc'.below BO) (HA.out.2.1.below BO).chg;have HB:Hid (Below w.heap.size w V):=BO;have HCC:Hid ((c∈chgsOf EH∨c∈chgsOf EW→c'=c)∧(c.ref∈refsOf (chgsOf EH)∨c.ref∈refsOf (chgsOf EW))):=hcc;clear XO RO OB BO hc' hcc;go_wp2_with fail;go_fit E6;rintro e w4 ⟨⟨cb,rfl,hcb⟩,b4⟩;have HZ:Hid (TakeX w g h q EH EW c (if cb=true then .nilIface else .iface 82 (.int .i64 8)) w4):=by
    exact HS.out (HB.out.trans (b4.mono HB.out.size)) (take_old HC.out HCC.out.2 (fun hu=>by rw[if_pos (hcb (HCC.out.1 hu))]))
   clear hcb b4 E6 x0 x1 x2 x3 x4 o0 o1 o2 o3 o4 zx zo;cases cb with
   | true=>
    go_wp2;go_ret;exact⟨_,rfl,HZ.out⟩
   | false=>
    go_wp2;go_ret;exact⟨_,rfl,HZ.out⟩
  | false=>
   have hno:c.ref∉EH.map (·.1.ref)∧c.ref∉EW.map (·.1.ref):=by
    have h1:=HF.out.1;unfold fnd at h1;cases hl:lk (ents EH) (ca,cs) with
    | some u=>rw[hl] at h1;simp at h1
    | none=>
     rw[hl] at h1;cases hl2:lk (ents EW) (ca,cs) with
     | some u=>rw[hl2] at h1;simp at h1
     | none=>
      rw[HN.out.1];refine⟨fun e=>?_,fun e=>?_⟩
      ·rw[mem_keys,hl] at e;cases e
      ·rw[mem_keys,hl2] at e;cases e
   have HNO:Hid (c.ref∉EH.map (·.1.ref)∧c.ref∉EW.map (·.1.ref)):=hno;have HNN:Hid (¬(c.ref∈refsOf (chgsOf EH)∨c.ref∈refsOf (chgsOf EW))):=by
    show ¬_;rw[refs_chgs,refs_chgs];exact fun e=>e.elim hno.1 hno.2
   have HLN:Hid ((chgsOf EH).length=EH.length∧(chgsOf EW).length=EW.length):=⟨List.length_map _,List.length_map _⟩
   clear hno;go_upto_region 8 with fail
   obtain⟨XO,RO,OB,BO⟩:=H3.out;clear H3;generalize w3.alloc (.cells #[.int .i64 va,.int .i64 vs,.int .i64 vt,.slice vd vn vc,.slice vo vm ve] 33)=V at *;have BV:=HA.out.1.below BO;obtain⟨k0,k1,-⟩:=cLs BV.book.box;have mh:=BV.book.has;have mq:=BV.book.wait;have zg:=lt_of_heap BV.book.box;have H4:Hid (_∧_∧_∧_):=⟨XO,RO,BO,BV⟩
   clear XO RO OB BO BV;refine rNh (fun W=>W.cell? ⟨g,0,none⟩=some (.map (some h))∧W.cell? ⟨g,1,none⟩=some (.map (some q))∧MapL W h (ents EH)∧MapL W q (ents EW)) (⟨k0,k1,⟨mh.own,mh.nd,mh.r64⟩,⟨mq.own,mq.nd,mq.r64⟩⟩) (fun hHeld=>?_);refine tk 0 rfl ?_;refine tk 1 rfl ?_;refine tk 2 rfl ?_;refine tk 3 rfl ?_;refine wpAnyH_take (i:=4) (oi:={dst:=some 30,op:=Op.call {callee:=Callee.builtin Builtin.len,args:=#[Operand.tmp 29],argTypes:=#[75]},type:=3,pos := "dag.go:34",after:=#[aD 3],guard:=none}) (v:=.int .i64 EH.length) rfl (by kernel_rfl) (by kernel_rfl) (by kernel_rfl) (fun _ _ _ h=>h) (Or.inl ⟨by rfl,?_⟩) (by assumption) ?_
   ·intro wz hSw;have hl:=hSw.2.2.1.len Tryz.underlying75 3;rw[ents_len] at hl;simp[Act.eval,hl,go_sem]
   try simp only[Act.put,nm]
   refine tk 5 rfl ?_;refine tk 6 rfl ?_;refine tk 7 rfl ?_;refine tk 8 rfl ?_;refine wpAnyH_take (i:=9) (oi:={dst:=some 35,op:=Op.call {callee:=Callee.builtin Builtin.len,args:=#[Operand.tmp 34],argTypes:=#[75]},type:=3,pos := "dag.go:34",after:=#[aD 8,aC 4],guard:=none}) (v:=.int .i64 EW.length) rfl (by kernel_rfl) (by kernel_rfl) (by kernel_rfl) (fun _ _ _ h=>h) (Or.inl ⟨by rfl,?_⟩) (by assumption) ?_
   ·intro wz hSw;have hl:=hSw.2.2.2.len Tryz.underlying75 3;rw[ents_len] at hl;simp[Act.eval,hl,go_sem]
   try simp only[Act.put,nm]
   refine tk 10 rfl ?_;refine tk 11 rfl ?_;refine wDn ?_;clear hHeld k0 k1 mh mq zg;obtain⟨XO,RO,BO,BV⟩:=H4.out;have bd:=drew_of (Below.refl V.heap.size V);have XD:=heap_below XO bd lRf;have RD:=heap_below RO bd lRf;have BD:Below w.heap.size w V.drew:=drew_of BO;have BVD:=HA.out.1.below BD;clear H4 XO RO BO BV bd;generalize V.drew=Y at *;have hwr:IntKind.i64.wrap ((EH.length:Int)+EW.length)=(EH.length:Int)+EW.length:=IntWalk.i64_in _ (by have:=BVD.many;omega);rw[hwr];clear hwr;by_cases hfull:120≤EH.length+EW.length
   ·have hf1:(120:Int)≤(EH.length:Int)+EW.length:=by omega
    have HZ:Hid (TakeX w g h q EH EW c (.iface 82 (.int .i64 4)) Y):=HS.out BD (take_full HC.out HNN.out (by rw[HLN.out.1,HLN.out.2];exact hfull) rfl);clear XD RD BD BVD hfull;go_wp2;go_ret;exact⟨_,rfl,HZ.out⟩
   ·have hf1:¬(120:Int)≤(EH.length:Int)+EW.length:=by omega
    have HFU:Hid (EH.length+EW.length<120):=by show _<_;omega
    have HFL:Hid ((chgsOf EH).length+(chgsOf EW).length<120):=by show _<_;rw[HLN.out.1,HLN.out.2];omega
    clear hfull;obtain⟨-,-,-,x3,-⟩:=cLs XD;have zx:=lt_of_heap XD;have E7:=hasAll_any g h q (ents EH) (ents EW) _ c.deps Y BVD.book (HA.out.2.2.below BD) BVD.cvH;obtain⟨hb7,hhb⟩:∃z:Bool,Hid (hasL (ents EH) c.deps=z):=⟨_,rfl⟩
    rw[hhb.out] at E7;have H4:Hid (_∧_∧_∧_):=⟨XD,RD,BD,BVD⟩
    clear XD RD BD BVD;have HRD:Hid (Ready (chgsOf EH) c↔hb7=true):=by
     show _↔_;rw[←hhb.out];unfold Ready hasL;rw[refs_chgs,List.all_eq_true];exact⟨fun h d hd=>mem_keys.1 (h d hd),fun h d hd=>mem_keys.2 (h d hd)⟩
    cases hb7 with
    | false=>
     go_wp2_with fail;go_fit E7;rintro e w7 ⟨rfl,b7⟩;have X7:=heap_below H4.out.1 b7 lRf;have R7:=heap_below H4.out.2.1 b7 lRf;have B7:Below w.heap.size w w7:=H4.out.2.2.1.trans (b7.mono H4.out.2.2.1.size);have BK7:=H4.out.2.2.2.below b7;clear E7 x3 zx b7 H4;have few:=chk_few HC.out;have EC:=copyOf_hi _ c w7.drew (HA.out.2.1.below (drew_of B7)) (by omega) (by omega) (fun o ho=>by have:=few.2.2.1 o ho;omega);obtain⟨-,k1,-⟩:=cLs BK7.book.box;obtain⟨r0,r1,-⟩:=cLs R7;obtain⟨x0,x1,x2,x3,x4,-⟩:=cLs X7;clear few X7 R7;go_upto_region 11 with fail
     refine rNh (fun W=>W.cell? ⟨g,1,none⟩=some (.map (some q))∧W.cell? ⟨w2.heap.size,0,none⟩=some (.int .i64 ca)∧W.cell? ⟨w2.heap.size,1,none⟩=some (.int .i64 cs)∧W.cell? ⟨w.heap.size,0,none⟩=some (.int .i64 ca)∧W.cell? ⟨w.heap.size,1,none⟩=some (.int .i64 cs)∧W.cell? ⟨w.heap.size,2,none⟩=some (.int .i64 ct)∧W.cell? ⟨w.heap.size,3,none⟩=some (.slice da dn dc)∧W.cell? ⟨w.heap.size,4,none⟩=some (.slice oa on oc)) (⟨k1,r0,r1,x0,x1,x2,x3,x4⟩) (fun hHeld=>?_);refine tk 0 rfl ?_;refine tk 1 rfl ?_;refine tk 2 rfl ?_;refine tk 3 rfl ?_;refine tk 4 rfl ?_;refine tk 5 rfl ?_;refine wpAnyH_ready (rs:=[6]) (by kernel_rfl) (by simp) (AllReadyH.cons (o:={dst:=some 50,op:=Op.call {callee:=Callee.value (Operand.func 34),args:=#[Operand.tmp 49],argTypes:=#[33]},type:=33,pos := "dag.go:38",after:=#[aD 5],guard:=none}) rfl (fun K hK=>?_) AllReadyH.nil);go_simp;go_at_call 34;refine Calls.mono EC ?_;rintro e w6 ⟨u,rfl,hu,hb6⟩;go_wp2_with fail;refine hK.out _ _ (keepT (by assumption) hb6) (fun hHeld6=>?_);clear hK K;try simp only[Act.put,nm]
     refine wpAnyH_ready (rs:=[7]) (by kernel_rfl) (by simp) (AllReadyH.cons (o:={dst:=none,op:=Op.mapUpdate 75 (Operand.tmp 47) (Operand.tmp 48) (Operand.tmp 50),type:=0,pos := "dag.go:38",after:=#[aD 3,aD 4,aD 6,aC 6,aP 0,aP 1,aP 2,aP 3,aP 4,aP 5,aP 6],guard:=none}) rfl (fun K hK=>?_) AllReadyH.nil);have BKu:=(BK7.below (drew_of (Below.refl _ w7))).below hb6;have mY:=BKu.book.wait;obtain⟨Z,hput,hMY,htY⟩:=mY.put Tryz.underlying75 HI.out (by rw[ents_len];have:=BKu.many;omega) u;go_simp;refine hK.out _ _ (keepP (by assumption) (Kp.turned htY) (noCells_map mY)) (fun hHeld7=>?_);clear hK K;try simp only[Act.put,nm]
     refine wDn ?_;have HZ:Hid (TakeX w g h q EH EW c .nilIface Z):=by
      refine⟨EH,EW++[(c,u)],BKu.wait' c u hu.chgW HC.out HNO.out.2 HNO.out.1 HFU.out (by rw[HN.out.1];exact hMY) htY,List.prefix_refl _,(Kp.of ((drew_of B7).trans (hb6.mono B7.size))).trans ((Kp.turned htY).mono (by simp)),HIV.out,?_⟩;have e8:chgsOf (EW++[(c,u)])=chgsOf EW++[c]:=by unfold chgsOf;simp
      rw[e8];have tw:=take_wait HC.out HNN.out HFL.out (fun hr=>by cases HRD.out.1 hr) (rfl:Value.nilIface=Value.nilIface);refine⟨tw.1,tw.2,fun x hx=>?_⟩;rcases List.mem_append.1 hx with hx | hx
      ·exact Or.inl (List.mem_append_left _ hx)
      ·rcases List.mem_append.1 hx with hx | hx
       ·exact Or.inl (List.mem_append_right _ hx)
       ·rw[List.mem_singleton.1 hx];exact Or.inr ((hu.maps ((Kp.turned htY).mono (R:=[h,q]) (by simp)) BKu.maps).mono B7.size)
     clear hHeld hHeld6 hHeld7 BKu mY hput hMY htY hu hb6 EC k1 r0 r1 x0 x1 x2 x3 x4 BK7 B7;go_wp2;go_ret;exact⟨_,rfl,HZ.out⟩
    | true=>
     have HRY:Hid (Ready (chgsOf EH) c):=HRD.out.2 rfl;clear HRD;go_wp2_with fail;go_fit E7;rintro e w8 ⟨rfl,b8⟩;have X8:=heap_below H4.out.1 b8 lRf;have R8:=heap_below H4.out.2.1 b8 lRf;have B8:Below w.heap.size w w8:=H4.out.2.2.1.trans (b8.mono H4.out.2.2.1.size);have BK8:=H4.out.2.2.2.below b8;clear E7 x3 zx b8 H4;have hd:∀d∈c.deps,d∈EH.map (·.1.ref):=fun d hd=>by
      have h1:=hhb.out;unfold hasL at h1;exact mem_keys.2 ((List.all_eq_true.1 h1) d hd)
     have E8:=fitsX_any w8 g h q EH EW _ c BK8 (HA.out.2.1.below B8) HC.out hd HIV.out;obtain⟨x0,x1,x2,x3,x4,-⟩:=cLs X8;have zx:=lt_of_heap X8;have HD:Hid (∀d∈c.deps,d∈EH.map (·.1.ref)):=hd;have H8:Hid (_∧_∧_∧_):=⟨X8,R8,B8,BK8⟩
     clear X8 R8 B8 BK8 hd;go_wp2_with fail;go_fit E8;rintro e w7 ⟨⟨fb,rfl,hfb⟩,b7⟩;have X7:=heap_below H8.out.1 b7 lRf;have R7:=heap_below H8.out.2.1 b7 lRf;have B7:Below w.heap.size w w7:=H8.out.2.2.1.trans (b7.mono H8.out.2.2.1.size);have BK7:=H8.out.2.2.2.below b7;have HFB:Hid (fb=true↔FitC (chgsOf EH) c):=fitC_bool hfb;clear E8 x0 x1 x2 x3 x4 zx b7 hfb H8;cases fb with
     | false=>
      have HZ:Hid (TakeX w g h q EH EW c (.iface 82 (.int .i64 7)) w7):=HS.out B7 (take_unfit HC.out HNN.out HFL.out HRY.out (fun hf=>by cases HFB.out.2 hf) rfl);clear X7 R7 B7 BK7;go_wp2;go_ret;exact⟨_,rfl,HZ.out⟩
     | true=>
      have HFY:Hid (FitC (chgsOf EH) c):=HFB.out.1 rfl;clear HFB;have few:=chk_few HC.out;have EC:=copyOf_hi _ c w7.drew (HA.out.2.1.below (drew_of B7)) (by omega) (by omega) (fun o ho=>by have:=few.2.2.1 o ho;omega);have k0:w7.cell? ⟨g,0,none⟩=some (.map (some h)):=cLo BK7.book.box 0;obtain⟨r0,r1,-⟩:=cLs R7;obtain⟨x0,x1,x2,x3,x4,-⟩:=cLs X7;clear few X7 R7;go_upto_region 15 with fail
      refine rNh (fun W=>W.cell? ⟨g,0,none⟩=some (.map (some h))∧W.cell? ⟨w2.heap.size,0,none⟩=some (.int .i64 ca)∧W.cell? ⟨w2.heap.size,1,none⟩=some (.int .i64 cs)∧W.cell? ⟨w.heap.size,0,none⟩=some (.int .i64 ca)∧W.cell? ⟨w.heap.size,1,none⟩=some (.int .i64 cs)∧W.cell? ⟨w.heap.size,2,none⟩=some (.int .i64 ct)∧W.cell? ⟨w.heap.size,3,none⟩=some (.slice da dn dc)∧W.cell? ⟨w.heap.size,4,none⟩=some (.slice oa on oc)) (⟨k0,r0,r1,x0,x1,x2,x3,x4⟩) (fun hHeld=>?_);refine tk 0 rfl ?_;refine tk 1 rfl ?_;refine tk 2 rfl ?_;refine tk 3 rfl ?_;refine tk 4 rfl ?_;refine tk 5 rfl ?_;refine wpAnyH_ready (rs:=[6]) (by kernel_rfl) (by simp) (AllReadyH.cons (o:={dst:=some 62,op:=Op.call {callee:=Callee.value (Operand.func 34),args:=#[Operand.tmp 61],argTypes:=#[33]},type:=33,pos := "dag.go:44",after:=#[aD 5],guard:=none}) rfl (fun K hK=>?_) AllReadyH.nil);go_simp;go_at_call 34;refine Calls.mono EC ?_;rintro e w6 ⟨u,rfl,hu,hb6⟩;go_wp2_with fail;refine hK.out _ _ (keepT (by assumption) hb6) (fun hHeld6=>?_);clear hK K;try simp only[Act.put,nm]
      refine wpAnyH_ready (rs:=[7]) (by kernel_rfl) (by simp) (AllReadyH.cons (o:={dst:=none,op:=Op.mapUpdate 75 (Operand.tmp 59) (Operand.tmp 60) (Operand.tmp 62),type:=0,pos := "dag.go:44",after:=#[aD 3,aD 4,aD 6,aC 6,aP 0,aP 1,aP 2,aP 3,aP 4,aP 5,aP 6],guard:=none}) rfl (fun K hK=>?_) AllReadyH.nil);have BKu:=(BK7.below (drew_of (Below.refl _ w7))).below hb6;have mY:=BKu.book.has;obtain⟨Z,hput,hMY,htY⟩:=mY.put Tryz.underlying75 HI.out (by rw[ents_len];have:=BKu.many;omega) u;go_simp;refine hK.out _ _ (keepP (by assumption) (Kp.turned htY) (noCells_map mY)) (fun hHeld7=>?_);clear hK K;try simp only[Act.put,nm]
      refine wDn ?_;have hBZ:=BKu.come c u hu.chgW HC.out HD.out HNO.out.1 HNO.out.2 HFU.out (by rw[HN.out.1];exact hMY) htY;have kZ:Kp [h,q] w Z:=(Kp.of ((drew_of B7).trans (hb6.mono B7.size))).trans ((Kp.turned htY).mono (by simp));have e8:chgsOf (EH++[(c,u)])=chgsOf EH++[c]:=by unfold chgsOf;simp
      have EW9:=wakeX_any Z g h q _ EW hBZ (by rw[e8];exact HIV.out.more HC.out (fun e=>HNN.out (Or.inl e)) HRY.out HFY.out);have HUZ:Hid (IsChgH w.heap.size Z u c∧Bk Z g h q (EH++[(c,u)]) EW):=⟨(hu.maps ((Kp.turned htY).mono (R:=[h,q]) (by simp)) BKu.maps).mono B7.size,hBZ⟩
      have HZ:Hid (Kp [h,q] w Z):=kZ;clear hHeld hHeld6 hHeld7 BKu mY hput hMY htY hu hb6 EC k0 r0 r1 x0 x1 x2 x3 x4 BK7 B7 hBZ kZ;go_wp2_with fail;go_fit EW9;rintro e w9 ⟨rfl,hwk⟩;have HY:Hid (TakeX w g h q EH EW c .nilIface w9):=by
       obtain⟨EH',EW',hB',hpre,hk',hIv,hwr,hold⟩:=hwk;rw[e8] at hwr;have tw:=take_take HC.out HNN.out HFL.out HRY.out HFY.out hwr (rfl:Value.nilIface=Value.nilIface);refine⟨EH',EW',hB',(List.prefix_append _ _).trans hpre,HZ.out.trans hk',hIv,tw.1,tw.2,fun x hx=>?_⟩;have hx2:=hold x hx;rcases List.mem_append.1 hx2 with hx2 | hx2
       ·rcases List.mem_append.1 hx2 with hx2 | hx2
        ·exact Or.inl (List.mem_append_left _ hx2)
        ·rw[List.mem_singleton.1 hx2];exact Or.inr (HUZ.out.1.maps hk' HUZ.out.2.maps)
       ·exact Or.inl (List.mem_append_right _ hx2)
      clear EW9 hwk;go_wp2;go_ret;exact⟨_,rfl,HY.out⟩
 ·have e0:errV ce=.iface 82 (.int .i64 ce):=by unfold errV;rw[if_neg h0]
  rw[e0];have HZ:Hid (TakeX w g h q EH EW c (.iface 82 (.int .i64 ce)) w1):=HS.out (HX.out.1.trans (b1.mono HX.out.1.size)) (take_bad (by rw[hce];exact h0) (by rw[hce];exact e0.symm));clear hce h0 e0 E1 HX b1;go_wp2;go_ret;exact⟨_,rfl,HZ.out⟩
structure Tak (L0 P L W:List Chg):Prop where
 mem:∀x,(x∈L∨x∈W)↔x∈P
 sub:∀x∈P,x∈L0
 cl:∀x∈L,∀d∈x.deps,d∈refsOf L
 rest:∀x∈W,¬Ready L x
theorem Tak.nil (L0:List Chg):Tak L0 [] [] []:=⟨(fun x=>by simp),(fun _ h=>by cases h),(fun _ h=>by cases h),(fun _ h=>by cases h)⟩
theorem Tak.inL {L0 P L W:List Chg} (T:Tak L0 P L W):∀x∈L,x∈L0:=fun x hx=>T.sub x ((T.mem x).1 (Or.inl hx))
theorem Tak.inW {L0 P L W:List Chg} (T:Tak L0 P L W):∀x∈W,x∈L0:=fun x hx=>T.sub x ((T.mem x).1 (Or.inr hx))
structure Wok (L0 P L W:List Chg):Prop where
 mem:∀x,(x∈L∨x∈W)↔x∈P
 cl:∀x∈L,∀d∈x.deps,d∈refsOf L
theorem Wok.snoc {L0 P L W W':List Chg} (I:Inv L0) (hs:∀x∈P,x∈L0) (T:Wok L0 P L W) {c:Chg} (hc:c∈W) (hr:Ready L c) (hW:W'=W.filter fun x=>decide (x.ref≠c.ref)):Wok L0 P (L++[c]) W':=by
 have hcP:c∈P:=(T.mem c).1 (Or.inr hc);refine⟨fun x=>?_,fun x hx d hd=>?_⟩
 ·rw[←T.mem x,hW,List.mem_append,List.mem_filter,List.mem_singleton];constructor
  ·rintro((h | rfl) | ⟨h,_⟩)
   ·exact Or.inl h
   ·exact Or.inr hc
   ·exact Or.inr h
  ·rintro(h | h)
   ·exact Or.inl (Or.inl h)
   ·by_cases e:x.ref=c.ref
    ·exact Or.inl (Or.inr (refs_inj I.nd (hs x ((T.mem x).1 (Or.inr h))) (hs c hcP) e))
    ·exact Or.inr ⟨h,decide_eq_true e⟩
 ·rw[refs_append];refine List.mem_append_left _ ?_;rcases List.mem_append.1 hx with hx | hx
  ·exact T.cl x hx d hd
  ·rw[List.mem_singleton.1 hx] at hd;exact hr d hd
theorem Wok.steps {L0 P:List Chg} (I:Inv L0) (F:FInv L0) (hs:∀x∈P,x∈L0):∀(n:Nat) {L W L' W':List Chg},WSteps n L W L' W'→Wok L0 P L W→Wok L0 P L' W'
 | 0,_,_,_,_,h,T=>by
  obtain⟨rfl,rfl⟩:=h;exact T
 | n+1,L,W,L',W',h,T=>by
  obtain⟨L1,W1,h1,c,hl,hcase,hW⟩:=h;have T1:=Wok.steps I F hs n h1 T;have hc0:c∈L0:=hs c ((T1.mem c).1 (Or.inr hl.1));have P1:Part L0 L1:=⟨fun x hx=>hs x ((T1.mem x).1 (Or.inl hx)),T1.cl⟩
  have hf:FitC L1 c:=fit_any I F P1 hc0 hl.2.1;rcases hcase with⟨_,e⟩ | ⟨hn,_⟩
  ·rw[e];exact T1.snoc I hs hl.1 hl.2.1 hW
  ·exact absurd hf hn
theorem few_of {L0 A:List Chg} {c:Chg} (ha:∀x∈A,x∈L0) (hc:c∈L0) (hn:(refsOf A).Nodup) (h:c.ref∉refsOf A):A.length<L0.length:=by
 have:=sub_len (L:=c::A) (D:=L0) (show(c.ref::refsOf A).Nodup from List.nodup_cons.2 ⟨h,hn⟩) (fun r hr=>by
  rcases List.mem_cons.1 (show r∈c.ref::refsOf A from hr) with e | e
  ·exact mem_refs.2 ⟨c,hc,e.symm⟩
  ·obtain⟨x,hx,e⟩:=mem_refs.1 e;exact mem_refs.2 ⟨x,ha x hx,e⟩)
 rw[List.length_cons] at this;omega
theorem Tak.next {L0 P L W L' W':List Chg} {c:Chg} {er:Value} (I:Inv L0) (F:FInv L0) (hm:L0.length≤120) (T:Tak L0 P L W) (hc:c∈L0) (hn:(refsOf (L++W)).Nodup) (h:TakeR L W c L' W') (X:ErrX L W c er):Tak L0 (P++[c]) L' W'∧er=.nilIface:=by
 have hck:=I.ok c hc;have hsub:∀x∈P++[c],x∈L0:=fun x hx=>by
  rcases List.mem_append.1 hx with hx | hx
  ·exact T.sub x hx
  ·rw[List.mem_singleton.1 hx];exact hc
 by_cases hold:c.ref∈refsOf L∨c.ref∈refsOf W
 ·obtain⟨rfl,rfl⟩:=h.old hck hold;have hin:c∈L'∨c∈W':=by
   rcases hold with e | e
   ·obtain⟨y,hy,e⟩:=mem_refs.1 e;exact Or.inl (refs_inj I.nd (T.inL y hy) hc e▸hy)
   ·obtain⟨y,hy,e⟩:=mem_refs.1 e;exact Or.inr (refs_inj I.nd (T.inW y hy) hc e▸hy)
  refine⟨⟨fun x=>?_,hsub,T.cl,T.rest⟩,X.old hck hin⟩;rw[T.mem x,List.mem_append,List.mem_singleton];exact⟨Or.inl,fun e=>e.elim id fun e=>e▸(T.mem c).1 hin⟩
 ·have hfew:L.length+W.length<120:=by
   have:=few_of (A:=L++W) (fun x hx=>(List.mem_append.1 hx).elim (T.inL x) (T.inW x)) hc hn (fun e=>by
    rw[refs_append] at e;exact hold (List.mem_append.1 e))
   rw[List.length_append] at this;omega
  by_cases hr:Ready L c
  ·have hf:FitC L c:=fit_any I F ⟨T.inL,T.cl⟩ hc hr;obtain⟨n,h1,h2⟩:=h.take hck hold hfew hr hf;have W0:Wok L0 (P++[c]) (L++[c]) W:=by
    refine⟨fun x=>?_,fun x hx d hd=>?_⟩
    ·rw[List.mem_append,List.mem_append,←T.mem x];constructor
     ·rintro((h | h) | h)
      ·exact Or.inl (Or.inl h)
      ·exact Or.inr h
      ·exact Or.inl (Or.inr h)
     ·rintro((h | h) | h)
      ·exact Or.inl (Or.inl h)
      ·exact Or.inr h
      ·exact Or.inl (Or.inr h)
    ·rw[refs_append];refine List.mem_append_left _ ?_;rcases List.mem_append.1 hx with hx | hx
     ·exact T.cl x hx d hd
     ·rw[List.mem_singleton.1 hx] at hd;exact hr d hd
   have W1:=W0.steps I F hsub n h1;exact⟨⟨W1.mem,hsub,W1.cl,h2⟩,X.take hck hold hfew hr hf⟩
  ·obtain⟨rfl,rfl⟩:=h.wait hck hold hfew hr;refine⟨⟨fun x=>?_,hsub,T.cl,fun x hx=>?_⟩,X.wait hck hold hfew hr⟩
   ·rw[List.mem_append,List.mem_append,←T.mem x,or_assoc]
   ·rcases List.mem_append.1 hx with hx | hx
    ·exact T.rest x hx
    ·rw[List.mem_singleton.1 hx];exact hr
theorem Tak.done {L0 P L W M:List Chg} (T:Tak L0 P L W) (A:AllO L0 M) (hP:∀x,x∈P↔x∈M):W=[]∧∀x,x∈L↔x∈M:=by
 have key:∀(post pre:List Chg),M=pre++post→(∀x∈pre,x∈L)→∀x∈M,x∈L:=by
  intro post
  induction post with
  | nil=>
   intro pre h hp x hx;rw[h,List.append_nil] at hx;exact hp x hx
  | cons c post ih=>
   intro pre h hp;refine ih (pre++[c]) (by rw[h];simp) fun x hx=>?_;rcases List.mem_append.1 hx with hx | hx
   ·exact hp x hx
   ·obtain rfl:=List.mem_singleton.1 hx;have hM:x∈M:=by rw[h];simp
    rcases(T.mem x).2 ((hP x).2 hM) with h1 | h1
    ·exact h1
    ·refine absurd (fun d hd=>?_) (T.rest x h1);obtain⟨y,hy,e⟩:=mem_refs.1 ((A.ord pre x post h).1.2 d hd);exact mem_refs.2 ⟨y,hp y hy,e⟩
 have hall:=key M [] rfl (fun _ h=>by cases h);have hiff:∀x,x∈L↔x∈M:=fun x=>⟨fun h=>(hP x).1 ((T.mem x).1 (Or.inl h)),hall x⟩
 refine⟨List.eq_nil_iff_forall_not_mem.2 fun x hx=>?_,hiff⟩;refine T.rest x hx fun d hd=>?_;have hM:x∈M:=(hP x).1 ((T.mem x).1 (Or.inr hx));obtain⟨y,hy,e⟩:=mem_refs.1 (A.part.cl x hM d hd);exact mem_refs.2 ⟨y,hall y hy,e⟩
theorem AllO.uniq {L L' M M':List Chg} (I:Inv L) (hL:∀x,x∈L↔x∈L') (A:AllO L M) (A':AllO L' M') (hl:M.length=M'.length):M=M':=by
 have key:∀(B B' pre:List Chg),M=pre++B→M'=pre++B'→B.length=B'.length→B=B':=by
  intro B
  induction B with
  | nil=>
   intro B' pre _ _ h;exact(List.length_eq_zero_iff.1 h.symm).symm
  | cons c B ih=>
   intro B' pre h h' hl;cases B' with
   | nil=>cases hl
   | cons c' B'=>
    have g:=A.ord pre c B h;have g':=A'.ord pre c' B' h';have hc:c∈L:=A.sub c (by rw[h];simp);have hc':c'∈L:=(hL c').2 (A'.sub c' (by rw[h'];simp));have e:c=c':=by
     rcases g.2 c' hc' g'.1 with e | e
     ·exact refs_inj I.nd hc hc' e.symm
     ·rcases g'.2 c ((hL c).1 hc) g.1 with e2 | e2
      ·exact refs_inj I.nd hc hc' e2
      ·exact absurd e2 (ltR_asym e)
    subst e;rw[ih B' (pre++[c]) (by rw[h];simp) (by rw[h'];simp) (by simpa using hl)]
 exact key M M' [] rfl rfl hl
theorem ord_least {EH:List CE} (hc:Clo EH) {ts:List Pr} (hp:ts.Perm (EH.map (·.1.ref))) (hr:Rise ts):∀k,k≤ts.length→
 Rise (ordN EH ts k).2∧(ordN EH ts k).2.length+k=ts.length∧OrdOk EH (ordN EH ts k).1 (ordN EH ts k).2∧∀pre r post,(ordN EH ts k).1=pre++r::post→∀x∈EH.map (·.1.ref),x∉pre→nextB EH pre x=true→x=r∨ltR r x
 | 0,_=>⟨hr,rfl,⟨hp,fun pre r post h=>by simp[ordN] at h⟩,fun pre r post h=>by simp[ordN] at h⟩
 | k+1,hk=>by
  obtain⟨h1,h2,h3,h4⟩:=ord_least hc hp hr k (by omega);obtain⟨D,hD⟩:=gNz ((ordN EH ts k).1);obtain⟨R,hR⟩:=gNz ((ordN EH ts k).2);rw[hD] at h3 h4;rw[hR] at h1 h2 h3;obtain⟨i,hi,hil,hb⟩:=h3.next hc (fun e=>by rw[e] at h2;simp at h2;omega);have e1:ordN EH ts (k+1)=(D++[R[i]],R.eraseIdx i):=by
   show ordStep EH (ordN EH ts k)=_;unfold ordStep;rw[hD,hR,hi,Int.toNat_natCast,List.getD_eq_getElem?_getD,List.getElem?_eq_getElem hil];rfl
  rw[e1];refine⟨List.Pairwise.sublist (List.eraseIdx_sublist R i) h1,by rw[List.length_eraseIdx_of_lt hil];omega,h3.step i hil hb,fun pre r post h x hx hxn hxb=>?_⟩;rcases List.eq_nil_or_concat post with rfl | ⟨q,z,rfl⟩
  ·have h5:=List.append_inj' h rfl;obtain rfl:D=pre:=h5.1;have h6:R[i]=r:=by simpa using h5.2
   rw[←h6];have hxR:x∈R:=by
    rcases List.mem_append.1 (h3.perm.mem_iff.2 hx) with e | e
    ·exact absurd e hxn
    ·exact e
   obtain⟨j,hj,rfl⟩:=List.getElem_of_mem hxR;rcases Nat.lt_trichotomy j i with h7 | h7 | h7
   ·have:=idxP_before hi j hj h7;rw[this] at hxb;cases hxb
   ·subst h7;exact Or.inl rfl
   ·exact Or.inr (List.pairwise_iff_getElem.1 h1 i j hil hj h7)
  ·have h5:D++[R[i]]=(pre++r::q)++[z]:=by first | exact h | (simpa using h)
   exact h4 pre r q (List.append_inj' h5 rfl).1 x hx hxn hxb
theorem all_order {EH es:List CE} {ts D:List Pr} (hn:(EH.map (·.1.ref)).Nodup) (hc:Clo EH) (hp:ts.Perm (EH.map (·.1.ref))) (hr:Rise ts) (ho:ordN EH ts ts.length=(D,[])) (he:es.map (·.1.ref)=D) (hm:∀p∈es,∃u,(p.1,u)∈EH):AllO (chgsOf EH) (chgsOf es)∧es.length=EH.length:=by
 obtain⟨_,h2,h3,h4⟩:=ord_least hc hp hr ts.length lRf;rw[ho] at h2 h3 h4;have hrf:refsOf (chgsOf es)=D:=by rw[refs_chgs];exact he
 have hDp:D.Perm (EH.map (·.1.ref)):=by have:=h3.perm;rwa [List.append_nil] at this
 have hDn:D.Nodup:=hDp.nodup_iff.2 hn;refine⟨⟨fun c hc=>?_,by rw[hrf];exact hDn,fun pre c post h=>?_⟩,by have:=hDp.length_eq;rw[←he,List.length_map,List.length_map] at this;exact this⟩
 ·obtain⟨p,hp,rfl⟩:=mem_chgs.1 hc;obtain⟨u,hu⟩:=hm p hp;exact mem_chgs.2 ⟨_,hu,rfl⟩
 ·have hDe:D=refsOf pre++c.ref::refsOf post:=by rw[←hrf,h,refs_append];rfl
  have dep:∀x∈chgsOf EH,depE EH x.ref=x.deps:=fun x hx=>by
   obtain⟨p,hp,rfl⟩:=mem_chgs.1 hx;exact depE_one hn hp
  have hcE:c∈chgsOf EH:=by
   obtain⟨p,hp,e⟩:=mem_chgs.1 (show c∈chgsOf es by rw[h];simp);obtain⟨u,hu⟩:=hm p hp;exact mem_chgs.2 ⟨_,hu,e⟩
  refine⟨⟨fun e=>?_,fun d hd=>h3.dep _ _ _ hDe d (by rw[dep c hcE];exact hd)⟩,fun x hx hnx=>?_⟩
  ·rw[hDe] at hDn;exact(List.nodup_append.1 hDn).2.2 _ e _ (List.mem_cons_self ..) rfl
  ·refine h4 _ _ _ hDe x.ref (by rw[←refs_chgs];exact mem_refs.2 ⟨x,hx,rfl⟩) hnx.1 ?_;rw[nextB_iff,dep x hx];exact hnx.2
end Go.Proofs.YtamhlgflbacjgaaGreat
