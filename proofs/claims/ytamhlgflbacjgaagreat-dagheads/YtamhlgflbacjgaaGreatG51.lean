/-
  What is proved: as each theorem says.
  Conditions: as each theorem says.
-/
import Derived.Test.YtamhlgflbacjgaaGreatG00
import Derived.Test.YtamhlgflbacjgaaGreatG50
import Derived.Test.YtamhlgflbacjgaaGreatG23
import Derived.Test.YtamhlgflbacjgaaGreatG49
import Derived.Test.YtamhlgflbacjgaaGreatG19
set_option maxRecDepth 100000
set_option maxHeartbeats 16000000
namespace Go.Proofs.YtamhlgflbacjgaaGreat
open Go.RowKit Go.Sort
theorem own_maps {S:List Nat} {B e s n:Nat} {w w':World} {v:Value} {xs:List Value} (h:w.ownsRow B e s v n xs) (k:Kp S w w') (hS:∀b∈S,∃es t,w.heap[b]?=some (.map es t)):w'.ownsRow B e s v n xs:=by
 refine⟨h.1,?_⟩;rcases h.2 with h0 | ⟨g,cap,cur,h1,h2,h3,h4⟩
 ·exact Or.inl h0
 ·exact Or.inr ⟨g,cap,cur,h1,h2,k.heap h3 (fun e=>by
   obtain⟨es,t,h5⟩:=hS g e;rw[h3] at h5;cases h5),h4⟩
theorem IsChgH.maps {S:List Nat} {B:Nat} {w w':World} {v:Value} {c:Chg} (h:IsChgH B w v c) (k:Kp S w w') (hS:∀b∈S,∃es t,w.heap[b]?=some (.map es t)):IsChgH B w' v c:=h.rows fun _ _ _ _ _ _ r=>own_maps r k hS
theorem Bk.maps {w:World} {g h q:Nat} {EH EW:List CE} (B:Bk w g h q EH EW):∀b∈[h,q],∃es t,w.heap[b]?=some (.map es t):=fun b hb=>by
 simp only[List.mem_cons,List.not_mem_nil,or_false] at hb;rcases hb with rfl | rfl
 ·obtain⟨D,⟨es,t,h0,_⟩,_⟩:=B.book.has.own;exact⟨es,t,h0⟩
 ·obtain⟨D,⟨es,t,h0,_⟩,_⟩:=B.book.wait.own;exact⟨es,t,h0⟩
structure ErrX (L W:List Chg) (c:Chg) (er:Value):Prop where
 bad:chk c≠0→er=errV (chk c)
 old:chk c=0→(c∈L∨c∈W)→er=.nilIface
 full:chk c=0→¬(c.ref∈refsOf L∨c.ref∈refsOf W)→120≤L.length+W.length→er=errV 4
 wait:chk c=0→¬(c.ref∈refsOf L∨c.ref∈refsOf W)→L.length+W.length<120→¬Ready L c→er=.nilIface
 unfit:chk c=0→¬(c.ref∈refsOf L∨c.ref∈refsOf W)→L.length+W.length<120→Ready L c→¬FitC L c→er=errV 7
 take:chk c=0→¬(c.ref∈refsOf L∨c.ref∈refsOf W)→L.length+W.length<120→Ready L c→FitC L c→er=.nilIface
section
variable {L W L' W' : List Chg} {c : Chg} {er : Value}
theorem old_in (h:c∈L∨c∈W):c.ref∈refsOf L∨c.ref∈refsOf W:=h.imp (fun h=>mem_refs.2 ⟨c,h,rfl⟩) (fun h=>mem_refs.2 ⟨c,h,rfl⟩)
theorem take_bad (h:chk c≠0) (he:er=errV (chk c)):TakeR L W c L W∧ErrX L W c er:=
 ⟨⟨fun _=>⟨rfl,rfl⟩,fun e=>absurd e h,fun e=>absurd e h,fun e=>absurd e h,fun e=>absurd e h,fun e=>absurd e h⟩,⟨fun _=>he,fun e=>absurd e h,fun e=>absurd e h,fun e=>absurd e h,fun e=>absurd e h,fun e=>absurd e h⟩⟩
theorem take_old (h:chk c=0) (h2:c.ref∈refsOf L∨c.ref∈refsOf W) (he:c∈L∨c∈W→er=.nilIface):TakeR L W c L W∧ErrX L W c er:=
 ⟨⟨fun e=>absurd h e,fun _ _=>⟨rfl,rfl⟩,fun _ e=>absurd h2 e,fun _ e=>absurd h2 e,fun _ e=>absurd h2 e,fun _ e=>absurd h2 e⟩,⟨fun e=>absurd h e,fun _ e=>he e,fun _ e=>absurd h2 e,fun _ e=>absurd h2 e,fun _ e=>absurd h2 e,fun _ e=>absurd h2 e⟩⟩
theorem take_full (h:chk c=0) (h2:¬(c.ref∈refsOf L∨c.ref∈refsOf W)) (h3:120≤L.length+W.length) (he:er=errV 4):TakeR L W c L W∧ErrX L W c er:=
 ⟨⟨fun e=>absurd h e,fun _ e=>absurd e h2,fun _ _ _=>⟨rfl,rfl⟩,fun _ _ e=>by omega,fun _ _ e=>by omega,fun _ _ e=>by omega⟩,⟨fun e=>absurd h e,fun _ e=>absurd (old_in e) h2,fun _ _ _=>he,fun _ _ e=>by omega,fun _ _ e=>by omega,fun _ _ e=>by omega⟩⟩
theorem take_wait (h:chk c=0) (h2:¬(c.ref∈refsOf L∨c.ref∈refsOf W)) (h3:L.length+W.length<120) (h4:¬Ready L c) (he:er=.nilIface):TakeR L W c L (W++[c])∧ErrX L W c er:=
 ⟨⟨fun e=>absurd h e,fun _ e=>absurd e h2,fun _ _ e=>by omega,fun _ _ _ _=>⟨rfl,rfl⟩,fun _ _ _ e=>absurd e h4,fun _ _ _ e=>absurd e h4⟩,⟨fun e=>absurd h e,fun _ e=>absurd (old_in e) h2,fun _ _ e=>by omega,fun _ _ _ _=>he,fun _ _ _ e=>absurd e h4,fun _ _ _ e=>absurd e h4⟩⟩
theorem take_unfit (h:chk c=0) (h2:¬(c.ref∈refsOf L∨c.ref∈refsOf W)) (h3:L.length+W.length<120) (h4:Ready L c) (h5:¬FitC L c) (he:er=errV 7):TakeR L W c L W∧ErrX L W c er:=
 ⟨⟨fun e=>absurd h e,fun _ e=>absurd e h2,fun _ _ e=>by omega,fun _ _ _ e=>absurd h4 e,fun _ _ _ _ _=>⟨rfl,rfl⟩,fun _ _ _ _ e=>absurd e h5⟩,⟨fun e=>absurd h e,fun _ e=>absurd (old_in e) h2,fun _ _ e=>by omega,fun _ _ _ e=>absurd h4 e,fun _ _ _ _ _=>he,fun _ _ _ _ e=>absurd e h5⟩⟩
theorem take_take (h:chk c=0) (h2:¬(c.ref∈refsOf L∨c.ref∈refsOf W)) (h3:L.length+W.length<120) (h4:Ready L c) (h5:FitC L c) (hw:WakeR (L++[c]) W L' W') (he:er=.nilIface):TakeR L W c L' W'∧ErrX L W c er:=
 ⟨⟨fun e=>absurd h e,fun _ e=>absurd e h2,fun _ _ e=>by omega,fun _ _ _ e=>absurd h4 e,fun _ _ _ _ e=>absurd h5 e,fun _ _ _ _ _=>hw⟩,⟨fun e=>absurd h e,fun _ e=>absurd (old_in e) h2,fun _ _ e=>by omega,fun _ _ _ e=>absurd h4 e,fun _ _ _ _ e=>absurd h5 e,fun _ _ _ _ _=>he⟩⟩
end
def TakeX (w:World) (g h q:Nat) (EH EW:List CE) (c:Chg) (er:Value) (w':World):Prop:=
 ∃EH' EW',Bk w' g h q EH' EW'∧EH <+: EH'∧Kp [h,q] w w'∧Inv (chgsOf EH')∧TakeR (chgsOf EH) (chgsOf EW) c (chgsOf EH') (chgsOf EW')∧ErrX (chgsOf EH) (chgsOf EW) c er∧∀x∈EH'++EW',x∈EH++EW∨IsChgH w.heap.size w' x.2 x.1
theorem takeX_any (w:World) (g h q:Nat) (EH EW:List CE) (v:Value) (c:Chg) (B:Bk w g h q EH EW) (hv:IsChgW w v c) (I:Inv (chgsOf EH)):
 Calls Tryz.prog 7 #[.pointer (some ⟨g,0,none⟩),v] w fun e w'=>∃er,e=.returned er∧TakeX w g h q EH EW c er w':=by
 obtain⟨ud,uo,lo,rfl,hi,hdp,hop,hlo,wd,wo,wq⟩:=id hv;obtain⟨da,dc,rfl,_⟩:=id hdp;obtain⟨oa,oc,rfl,_⟩:=id hop;have b0:=bAl w (.cells #[.int .i64 c.actor,.int .i64 c.seq,.int .i64 c.start,.slice da c.deps.length dc,.slice oa lo.length oc] 33);have x0:=heap_alloc_new w (.cells #[.int .i64 c.actor,.int .i64 c.seq,.int .i64 c.start,.slice da c.deps.length dc,.slice oa lo.length oc] 33);have E1:=check_any _ c _ (hv.below b0).chg;obtain⟨on,hon⟩:=gNz (lo.length);obtain⟨dn,hdn⟩:=gNz (c.deps.length);obtain⟨ca,hca⟩:=gNz (c.actor);obtain⟨cs,hcs⟩:=gNz (c.seq);obtain⟨ct,hct⟩:=gNz (c.start);rw[hca,hcs,hct,hon,hdn] at b0 x0 E1 hv ⊢;rw[hdn] at hdp;have HN:Hid (c.ref=(ca,cs)∧c.deps.length=dn):=⟨by unfold Chg.ref;rw[hca,hcs],hdn⟩
 have HI:Hid (R64 (ca,cs)):=⟨by rw[←hca];exact hi.1,by rw[←hcs];exact hi.2.1⟩
 have HA:Hid (Bk w g h q EH EW∧IsChgW w (.agg #[.int .i64 ca,.int .i64 cs,.int .i64 ct,.slice da dn dc,.slice oa on oc]) c∧IsPairs w (.slice da dn dc) c.deps):=⟨B,hv,hdp⟩
 have HX:Hid (_∧_):=⟨b0,x0⟩
 clear B hv hdp hop hlo wd wo wq hi b0 x0 hca hcs hct hon hdn;have HS:Hid (∀{W:World} {er:Value},Below w.heap.size w W→TakeR (chgsOf EH) (chgsOf EW) c (chgsOf EH) (chgsOf EW)∧ErrX (chgsOf EH) (chgsOf EW) c er→TakeX w g h q EH EW c er W):=fun {W er} b e1=>
  ⟨EH,EW,HA.out.1.below b,List.prefix_refl _,Kp.of b,I,e1.1,e1.2,fun _ h=>Or.inl h⟩
 have HIV:Hid (Inv (chgsOf EH)):=I;clear I;obtain⟨ce,hce⟩:=gNz (chk c);rw[hce] at E1;go_enter Tryz.func7,Tryz.ntmps7
 go_wp2_with fail;go_fit E1;rintro e w1 ⟨rfl,b1⟩;by_cases h0:ce=0
 ·subst h0;have HC:Hid (chk c=0):=hce;have e0:errV 0=.nilIface:=rfl;rw[e0];have X1:=heap_below HX.out.2 b1 lRf;have B1:Below w.heap.size w w1:=HX.out.1.trans (b1.mono HX.out.1.size);clear hce e0 E1 HX b1;obtain⟨x0,x1,x2,x3,x4,-⟩:=cLs X1;have zx:=lt_of_heap X1;have E4:=refOf_any ca cs ct da dn dc oa on oc w1;have H1:Hid (_∧_):=⟨X1,B1⟩
  clear X1 B1;go_wp2_with fail;go_fit E4;rintro e w2 ⟨rfl,b2⟩;clear E4 x0 x1 x2 x3 x4 zx;have bR:=b2.alloc b2.size (.cells #[.int .i64 ca,.int .i64 cs] 45);have R2:=heap_alloc_new w2 (.cells #[.int .i64 ca,.int .i64 cs] 45);obtain⟨W,hW⟩:∃W,W=w2.alloc (.cells #[.int .i64 ca,.int .i64 cs] 45):=⟨_,rfl⟩
  rw[←hW] at bR R2;have BW:Below w.heap.size w W:=H1.out.2.trans (bR.mono H1.out.2.size);have XW:=heap_below H1.out.1 bR lRf;have E5:=find_any g h q (ents EH) (ents EW) (ca,cs) W (HA.out.1.below BW).book HI.out (HA.out.1.below BW).cvH (HA.out.1.below BW).cvW;obtain⟨fb,hfb⟩:=gNz ((fnd (ents EH) (ents EW) (ca,cs)).isSome:Bool);obtain⟨va,vs,vt,vd,vn,vc,vo,vm,ve,hvv⟩:CV ((fnd (ents EH) (ents EW) (ca,cs)).getD zC):=by
   unfold fnd;cases hl:lk (ents EH) (ca,cs) with
   | none=>simpa using cv_look (HA.out.1.below BW).cvW (ca,cs)
   | some u=>simpa using (HA.out.1.below BW).cvH _ (lk_mem hl)
  rw[hfb,hvv] at E5;have H2:Hid (_∧_∧_):=⟨XW,BW,R2⟩
  have HF:Hid (_∧_):=⟨hfb,hvv⟩
  rw[hW] at E5;clear b2 bR R2 XW BW hfb hvv H1;go_wp2_with fail;go_fit E5;rintro e w3 ⟨rfl,b3⟩;rw[←hW] at b3;clear E5;have HWs:Hid (W=_):=hW;clear hW;have bO:=b3.alloc b3.size (.cells #[.int .i64 va,.int .i64 vs,.int .i64 vt,.slice vd vn vc,.slice vo vm ve] 33);have OB:=heap_alloc_new w3 (.cells #[.int .i64 va,.int .i64 vs,.int .i64 vt,.slice vd vn vc,.slice vo vm ve] 33);have XO:=heap_below H2.out.1 bO lRf;have RO:=heap_below H2.out.2.2 bO lRf;have BO:Below w.heap.size w _:=H2.out.2.1.trans (bO.mono H2.out.2.1.size);have H3:Hid (_∧_∧_∧_):=⟨XO,RO,OB,BO⟩
  clear bO OB XO RO BO b3 H2;cases fb with
  | true=>
   go_upto_region 7 with fail
   obtain⟨XO,RO,OB,BO⟩:=H3.out;clear H3;generalize w3.alloc (.cells #[.int .i64 va,.int .i64 vs,.int .i64 vt,.slice vd vn vc,.slice vo vm ve] 33)=V at *;obtain⟨x0,x1,x2,x3,x4,-⟩:=cLs XO;obtain⟨o0,o1,o2,o3,o4,-⟩:=cLs OB;have zx:=lt_of_heap XO;have zo:=lt_of_heap OB;obtain⟨c',hc',hcc⟩:∃c',IsChg w (.agg #[.int .i64 va,.int .i64 vs,.int .i64 vt,.slice vd vn vc,.slice vo vm ve]) c'∧(c∈chgsOf EH∨c∈chgsOf EW→c'=c)∧(c.ref∈refsOf (chgsOf EH)∨c.ref∈refsOf (chgsOf EW)):=by
    have h1:=HF.out.1;have h2:=HF.out.2;unfold fnd at h1 h2;have hnd:=nodup_ents HA.out.1;cases hl:lk (ents EH) (ca,cs) with
    | some u=>
     rw[hl] at h2;simp at h2;subst h2;obtain⟨c',hm,hr⟩:=lk_ents hl;have hin:c.ref∈refsOf (chgsOf EH):=by
      rw[HN.out.1,←hr];exact mem_refs.2 ⟨c',mem_chgs.2 ⟨_,hm,rfl⟩,rfl⟩
     refine⟨c',(HA.out.1.chgs _ (List.mem_append_left _ hm)).1.chg,fun hcm=>?_,Or.inl hin⟩;rcases hcm with hcm | hcm
     ·exact refs_inj (L:=chgsOf EH) (by rw[refs_chgs];exact hnd.1) (mem_chgs.2 ⟨_,hm,rfl⟩) hcm (hr.trans HN.out.1.symm)
     ·exfalso;have h5:c.ref∈EW.map (·.1.ref):=by rw[←refs_chgs];exact mem_refs.2 ⟨c,hcm,rfl⟩
      rw[refs_chgs] at hin;exact HA.out.1.dis _ h5 hin
    | none=>
     rw[hl] at h1 h2;simp at h1 h2;cases hl2:lk (ents EW) (ca,cs) with
     | none=>rw[hl2] at h1;simp at h1
     | some u=>
      rw[hl2] at h2;simp at h2;subst h2;obtain⟨c',hm,hr⟩:=lk_ents hl2;have hin:c.ref∈refsOf (chgsOf EW):=by
       rw[HN.out.1,←hr];exact mem_refs.2 ⟨c',mem_chgs.2 ⟨_,hm,rfl⟩,rfl⟩
      refine⟨c',(HA.out.1.chgs _ (List.mem_append_right _ hm)).1.chg,fun hcm=>?_,Or.inr hin⟩;rcases hcm with hcm | hcm
      ·exfalso;have h5:(ca,cs)∈EH.map (·.1.ref):=by rw[←HN.out.1,←refs_chgs];exact mem_refs.2 ⟨c,hcm,rfl⟩
       rw[mem_keys,hl] at h5;simp at h5
      ·exact refs_inj (L:=chgsOf EW) (by rw[refs_chgs];exact hnd.2) (mem_chgs.2 ⟨_,hm,rfl⟩) hcm (hr.trans HN.out.1.symm)
   have E6:=clash_any _ _ c' c V (hc'.below BO) (HA.out.2.1.below BO).chg;have HB:Hid (Below w.heap.size w V):=BO;have HCC:Hid ((c∈chgsOf EH∨c∈chgsOf EW→c'=c)∧(c.ref∈refsOf (chgsOf EH)∨c.ref∈refsOf (chgsOf EW))):=hcc;clear XO RO OB BO hc' hcc;go_wp2_with fail;go_fit E6;rintro e w4 ⟨⟨cb,rfl,hcb⟩,b4⟩;have HZ:Hid (TakeX w g h q EH EW c (if cb=true then .nilIface else .iface 82 (.int .i64 8)) w4):=by
    exact HS.out (HB.out.trans (b4.mono HB.out.size)) (take_old HC.out HCC.out.2 (fun hu=>by rw[if_pos (hcb (HCC.out.1 hu))]))
   clear hcb b4 E6 x0 x1 x2 x3 x4 o0 o1 o2 o3 o4 zx zo;cases cb with
   | true=>
    go_wp2;go_ret;exact⟨_,rfl,HZ.out⟩
   | false=>
    go_wp2;go_ret;exact⟨_,rfl,HZ.out⟩
  | false=>
   have hno:c.ref∉EH.map (·.1.ref)∧c.ref∉EW.map (·.1.ref):=by
    have h1:=HF.out.1;unfold fnd at h1;cases hl:lk (ents EH) (ca,cs) with
    | some u=>rw[hl] at h1;simp at h1
    | none=>
     rw[hl] at h1;cases hl2:lk (ents EW) (ca,cs) with
     | some u=>rw[hl2] at h1;simp at h1
     | none=>
      rw[HN.out.1];refine⟨fun e=>?_,fun e=>?_⟩
      ·rw[mem_keys,hl] at e;cases e
      ·rw[mem_keys,hl2] at e;cases e
   have HNO:Hid (c.ref∉EH.map (·.1.ref)∧c.ref∉EW.map (·.1.ref)):=hno;have HNN:Hid (¬(c.ref∈refsOf (chgsOf EH)∨c.ref∈refsOf (chgsOf EW))):=by
    show ¬_;rw[refs_chgs,refs_chgs];exact fun e=>e.elim hno.1 hno.2
   have HLN:Hid ((chgsOf EH).length=EH.length∧(chgsOf EW).length=EW.length):=⟨List.length_map _,List.length_map _⟩
   clear hno;go_upto_region 8 with fail
   obtain⟨XO,RO,OB,BO⟩:=H3.out;clear H3;generalize w3.alloc (.cells #[.int .i64 va,.int .i64 vs,.int .i64 vt,.slice vd vn vc,.slice vo vm ve] 33)=V at *;have BV:=HA.out.1.below BO;obtain⟨k0,k1,-⟩:=cLs BV.book.box;have mh:=BV.book.has;have mq:=BV.book.wait;have zg:=lt_of_heap BV.book.box;have H4:Hid (_∧_∧_∧_):=⟨XO,RO,BO,BV⟩
   clear XO RO OB BO BV;refine rNh (fun W=>W.cell? ⟨g,0,none⟩=some (.map (some h))∧W.cell? ⟨g,1,none⟩=some (.map (some q))∧MapL W h (ents EH)∧MapL W q (ents EW)) (⟨k0,k1,⟨mh.own,mh.nd,mh.r64⟩,⟨mq.own,mq.nd,mq.r64⟩⟩) (fun hHeld=>?_);refine tk 0 rfl ?_;refine tk 1 rfl ?_;refine tk 2 rfl ?_;refine tk 3 rfl ?_;refine wpAnyH_take (i:=4) (oi:={dst:=some 30,op:=Op.call {callee:=Callee.builtin Builtin.len,args:=#[Operand.tmp 29],argTypes:=#[75]},type:=3,pos := "dag.go:34",after:=#[aD 3],guard:=none}) (v:=.int .i64 EH.length) rfl (by kernel_rfl) (by kernel_rfl) (by kernel_rfl) (fun _ _ _ h=>h) (Or.inl ⟨by rfl,?_⟩) (by assumption) ?_
   ·intro wz hSw;have hl:=hSw.2.2.1.len Tryz.underlying75 3;rw[ents_len] at hl;simp[Act.eval,hl,go_sem]
   try simp only[Act.put,nm]
   refine tk 5 rfl ?_;refine tk 6 rfl ?_;refine tk 7 rfl ?_;refine tk 8 rfl ?_;refine wpAnyH_take (i:=9) (oi:={dst:=some 35,op:=Op.call {callee:=Callee.builtin Builtin.len,args:=#[Operand.tmp 34],argTypes:=#[75]},type:=3,pos := "dag.go:34",after:=#[aD 8,aC 4],guard:=none}) (v:=.int .i64 EW.length) rfl (by kernel_rfl) (by kernel_rfl) (by kernel_rfl) (fun _ _ _ h=>h) (Or.inl ⟨by rfl,?_⟩) (by assumption) ?_
   ·intro wz hSw;have hl:=hSw.2.2.2.len Tryz.underlying75 3;rw[ents_len] at hl;simp[Act.eval,hl,go_sem]
   try simp only[Act.put,nm]
   refine tk 10 rfl ?_;refine tk 11 rfl ?_;refine wDn ?_;clear hHeld k0 k1 mh mq zg;obtain⟨XO,RO,BO,BV⟩:=H4.out;have bd:=drew_of (Below.refl V.heap.size V);have XD:=heap_below XO bd lRf;have RD:=heap_below RO bd lRf;have BD:Below w.heap.size w V.drew:=drew_of BO;have BVD:=HA.out.1.below BD;clear H4 XO RO BO BV bd;generalize V.drew=Y at *;have hwr:IntKind.i64.wrap ((EH.length:Int)+EW.length)=(EH.length:Int)+EW.length:=IntWalk.i64_in _ (by have:=BVD.many;omega);rw[hwr];clear hwr;by_cases hfull:120≤EH.length+EW.length
   ·have hf1:(120:Int)≤(EH.length:Int)+EW.length:=by omega
    have HZ:Hid (TakeX w g h q EH EW c (.iface 82 (.int .i64 4)) Y):=HS.out BD (take_full HC.out HNN.out (by rw[HLN.out.1,HLN.out.2];exact hfull) rfl);clear XD RD BD BVD hfull;go_wp2;go_ret;exact⟨_,rfl,HZ.out⟩
   ·have hf1:¬(120:Int)≤(EH.length:Int)+EW.length:=by omega
    have HFU:Hid (EH.length+EW.length<120):=by show _<_;omega
    have HFL:Hid ((chgsOf EH).length+(chgsOf EW).length<120):=by show _<_;rw[HLN.out.1,HLN.out.2];omega
    clear hfull;obtain⟨-,-,-,x3,-⟩:=cLs XD;have zx:=lt_of_heap XD;have E7:=hasAll_any g h q (ents EH) (ents EW) _ c.deps Y BVD.book (HA.out.2.2.below BD) BVD.cvH;obtain⟨hb7,hhb⟩:∃z:Bool,Hid (hasL (ents EH) c.deps=z):=⟨_,rfl⟩
    rw[hhb.out] at E7;have H4:Hid (_∧_∧_∧_):=⟨XD,RD,BD,BVD⟩
    clear XD RD BD BVD;have HRD:Hid (Ready (chgsOf EH) c↔hb7=true):=by
     show _↔_;rw[←hhb.out];unfold Ready hasL;rw[refs_chgs,List.all_eq_true];exact⟨fun h d hd=>mem_keys.1 (h d hd),fun h d hd=>mem_keys.2 (h d hd)⟩
    cases hb7 with
    | false=>
     go_wp2_with fail;go_fit E7;rintro e w7 ⟨rfl,b7⟩;have X7:=heap_below H4.out.1 b7 lRf;have R7:=heap_below H4.out.2.1 b7 lRf;have B7:Below w.heap.size w w7:=H4.out.2.2.1.trans (b7.mono H4.out.2.2.1.size);have BK7:=H4.out.2.2.2.below b7;clear E7 x3 zx b7 H4;have few:=chk_few HC.out;have EC:=copyOf_hi _ c w7.drew (HA.out.2.1.below (drew_of B7)) (by omega) (by omega) (fun o ho=>by have:=few.2.2.1 o ho;omega);obtain⟨-,k1,-⟩:=cLs BK7.book.box;obtain⟨r0,r1,-⟩:=cLs R7;obtain⟨x0,x1,x2,x3,x4,-⟩:=cLs X7;clear few X7 R7;go_upto_region 11 with fail
     refine rNh (fun W=>W.cell? ⟨g,1,none⟩=some (.map (some q))∧W.cell? ⟨w2.heap.size,0,none⟩=some (.int .i64 ca)∧W.cell? ⟨w2.heap.size,1,none⟩=some (.int .i64 cs)∧W.cell? ⟨w.heap.size,0,none⟩=some (.int .i64 ca)∧W.cell? ⟨w.heap.size,1,none⟩=some (.int .i64 cs)∧W.cell? ⟨w.heap.size,2,none⟩=some (.int .i64 ct)∧W.cell? ⟨w.heap.size,3,none⟩=some (.slice da dn dc)∧W.cell? ⟨w.heap.size,4,none⟩=some (.slice oa on oc)) (⟨k1,r0,r1,x0,x1,x2,x3,x4⟩) (fun hHeld=>?_);refine tk 0 rfl ?_;refine tk 1 rfl ?_;refine tk 2 rfl ?_;refine tk 3 rfl ?_;refine tk 4 rfl ?_;refine tk 5 rfl ?_;refine wpAnyH_ready (rs:=[6]) (by kernel_rfl) (by simp) (AllReadyH.cons (o:={dst:=some 50,op:=Op.call {callee:=Callee.value (Operand.func 34),args:=#[Operand.tmp 49],argTypes:=#[33]},type:=33,pos := "dag.go:38",after:=#[aD 5],guard:=none}) rfl (fun K hK=>?_) AllReadyH.nil);go_simp;go_at_call 34;refine Calls.mono EC ?_;rintro e w6 ⟨u,rfl,hu,hb6⟩;go_wp2_with fail;refine hK.out _ _ (keepT (by assumption) hb6) (fun hHeld6=>?_);clear hK K;try simp only[Act.put,nm]
     refine wpAnyH_ready (rs:=[7]) (by kernel_rfl) (by simp) (AllReadyH.cons (o:={dst:=none,op:=Op.mapUpdate 75 (Operand.tmp 47) (Operand.tmp 48) (Operand.tmp 50),type:=0,pos := "dag.go:38",after:=#[aD 3,aD 4,aD 6,aC 6,aP 0,aP 1,aP 2,aP 3,aP 4,aP 5,aP 6],guard:=none}) rfl (fun K hK=>?_) AllReadyH.nil);have BKu:=(BK7.below (drew_of (Below.refl _ w7))).below hb6;have mY:=BKu.book.wait;obtain⟨Z,hput,hMY,htY⟩:=mY.put Tryz.underlying75 HI.out (by rw[ents_len];have:=BKu.many;omega) u;go_simp;refine hK.out _ _ (keepP (by assumption) (Kp.turned htY) (noCells_map mY)) (fun hHeld7=>?_);clear hK K;try simp only[Act.put,nm]
     refine wDn ?_;have HZ:Hid (TakeX w g h q EH EW c .nilIface Z):=by
      refine⟨EH,EW++[(c,u)],BKu.wait' c u hu.chgW HC.out HNO.out.2 HNO.out.1 HFU.out (by rw[HN.out.1];exact hMY) htY,List.prefix_refl _,(Kp.of ((drew_of B7).trans (hb6.mono B7.size))).trans ((Kp.turned htY).mono (by simp)),HIV.out,?_⟩;have e8:chgsOf (EW++[(c,u)])=chgsOf EW++[c]:=by unfold chgsOf;simp
      rw[e8];have tw:=take_wait HC.out HNN.out HFL.out (fun hr=>by cases HRD.out.1 hr) (rfl:Value.nilIface=Value.nilIface);refine⟨tw.1,tw.2,fun x hx=>?_⟩;rcases List.mem_append.1 hx with hx | hx
      ·exact Or.inl (List.mem_append_left _ hx)
      ·rcases List.mem_append.1 hx with hx | hx
       ·exact Or.inl (List.mem_append_right _ hx)
       ·rw[List.mem_singleton.1 hx];exact Or.inr ((hu.maps ((Kp.turned htY).mono (R:=[h,q]) (by simp)) BKu.maps).mono B7.size)
     clear hHeld hHeld6 hHeld7 BKu mY hput hMY htY hu hb6 EC k1 r0 r1 x0 x1 x2 x3 x4 BK7 B7;go_wp2;go_ret;exact⟨_,rfl,HZ.out⟩
    | true=>
     have HRY:Hid (Ready (chgsOf EH) c):=HRD.out.2 rfl;clear HRD;go_wp2_with fail;go_fit E7;rintro e w8 ⟨rfl,b8⟩;have X8:=heap_below H4.out.1 b8 lRf;have R8:=heap_below H4.out.2.1 b8 lRf;have B8:Below w.heap.size w w8:=H4.out.2.2.1.trans (b8.mono H4.out.2.2.1.size);have BK8:=H4.out.2.2.2.below b8;clear E7 x3 zx b8 H4;have hd:∀d∈c.deps,d∈EH.map (·.1.ref):=fun d hd=>by
      have h1:=hhb.out;unfold hasL at h1;exact mem_keys.2 ((List.all_eq_true.1 h1) d hd)
     have E8:=fitsX_any w8 g h q EH EW _ c BK8 (HA.out.2.1.below B8) HC.out hd HIV.out;obtain⟨x0,x1,x2,x3,x4,-⟩:=cLs X8;have zx:=lt_of_heap X8;have HD:Hid (∀d∈c.deps,d∈EH.map (·.1.ref)):=hd;have H8:Hid (_∧_∧_∧_):=⟨X8,R8,B8,BK8⟩
     clear X8 R8 B8 BK8 hd;go_wp2_with fail;go_fit E8;rintro e w7 ⟨⟨fb,rfl,hfb⟩,b7⟩;have X7:=heap_below H8.out.1 b7 lRf;have R7:=heap_below H8.out.2.1 b7 lRf;have B7:Below w.heap.size w w7:=H8.out.2.2.1.trans (b7.mono H8.out.2.2.1.size);have BK7:=H8.out.2.2.2.below b7;have HFB:Hid (fb=true↔FitC (chgsOf EH) c):=fitC_bool hfb;clear E8 x0 x1 x2 x3 x4 zx b7 hfb H8;cases fb with
     | false=>
      have HZ:Hid (TakeX w g h q EH EW c (.iface 82 (.int .i64 7)) w7):=HS.out B7 (take_unfit HC.out HNN.out HFL.out HRY.out (fun hf=>by cases HFB.out.2 hf) rfl);clear X7 R7 B7 BK7;go_wp2;go_ret;exact⟨_,rfl,HZ.out⟩
     | true=>
      have HFY:Hid (FitC (chgsOf EH) c):=HFB.out.1 rfl;clear HFB;have few:=chk_few HC.out;have EC:=copyOf_hi _ c w7.drew (HA.out.2.1.below (drew_of B7)) (by omega) (by omega) (fun o ho=>by have:=few.2.2.1 o ho;omega);have k0:w7.cell? ⟨g,0,none⟩=some (.map (some h)):=cLo BK7.book.box 0;obtain⟨r0,r1,-⟩:=cLs R7;obtain⟨x0,x1,x2,x3,x4,-⟩:=cLs X7;clear few X7 R7;go_upto_region 15 with fail
      refine rNh (fun W=>W.cell? ⟨g,0,none⟩=some (.map (some h))∧W.cell? ⟨w2.heap.size,0,none⟩=some (.int .i64 ca)∧W.cell? ⟨w2.heap.size,1,none⟩=some (.int .i64 cs)∧W.cell? ⟨w.heap.size,0,none⟩=some (.int .i64 ca)∧W.cell? ⟨w.heap.size,1,none⟩=some (.int .i64 cs)∧W.cell? ⟨w.heap.size,2,none⟩=some (.int .i64 ct)∧W.cell? ⟨w.heap.size,3,none⟩=some (.slice da dn dc)∧W.cell? ⟨w.heap.size,4,none⟩=some (.slice oa on oc)) (⟨k0,r0,r1,x0,x1,x2,x3,x4⟩) (fun hHeld=>?_);refine tk 0 rfl ?_;refine tk 1 rfl ?_;refine tk 2 rfl ?_;refine tk 3 rfl ?_;refine tk 4 rfl ?_;refine tk 5 rfl ?_;refine wpAnyH_ready (rs:=[6]) (by kernel_rfl) (by simp) (AllReadyH.cons (o:={dst:=some 62,op:=Op.call {callee:=Callee.value (Operand.func 34),args:=#[Operand.tmp 61],argTypes:=#[33]},type:=33,pos := "dag.go:44",after:=#[aD 5],guard:=none}) rfl (fun K hK=>?_) AllReadyH.nil);go_simp;go_at_call 34;refine Calls.mono EC ?_;rintro e w6 ⟨u,rfl,hu,hb6⟩;go_wp2_with fail;refine hK.out _ _ (keepT (by assumption) hb6) (fun hHeld6=>?_);clear hK K;try simp only[Act.put,nm]
      refine wpAnyH_ready (rs:=[7]) (by kernel_rfl) (by simp) (AllReadyH.cons (o:={dst:=none,op:=Op.mapUpdate 75 (Operand.tmp 59) (Operand.tmp 60) (Operand.tmp 62),type:=0,pos := "dag.go:44",after:=#[aD 3,aD 4,aD 6,aC 6,aP 0,aP 1,aP 2,aP 3,aP 4,aP 5,aP 6],guard:=none}) rfl (fun K hK=>?_) AllReadyH.nil);have BKu:=(BK7.below (drew_of (Below.refl _ w7))).below hb6;have mY:=BKu.book.has;obtain⟨Z,hput,hMY,htY⟩:=mY.put Tryz.underlying75 HI.out (by rw[ents_len];have:=BKu.many;omega) u;go_simp;refine hK.out _ _ (keepP (by assumption) (Kp.turned htY) (noCells_map mY)) (fun hHeld7=>?_);clear hK K;try simp only[Act.put,nm]
      refine wDn ?_;have hBZ:=BKu.come c u hu.chgW HC.out HD.out HNO.out.1 HNO.out.2 HFU.out (by rw[HN.out.1];exact hMY) htY;have kZ:Kp [h,q] w Z:=(Kp.of ((drew_of B7).trans (hb6.mono B7.size))).trans ((Kp.turned htY).mono (by simp));have e8:chgsOf (EH++[(c,u)])=chgsOf EH++[c]:=by unfold chgsOf;simp
      have EW9:=wakeX_any Z g h q _ EW hBZ (by rw[e8];exact HIV.out.more HC.out (fun e=>HNN.out (Or.inl e)) HRY.out HFY.out);have HUZ:Hid (IsChgH w.heap.size Z u c∧Bk Z g h q (EH++[(c,u)]) EW):=⟨(hu.maps ((Kp.turned htY).mono (R:=[h,q]) (by simp)) BKu.maps).mono B7.size,hBZ⟩
      have HZ:Hid (Kp [h,q] w Z):=kZ;clear hHeld hHeld6 hHeld7 BKu mY hput hMY htY hu hb6 EC k0 r0 r1 x0 x1 x2 x3 x4 BK7 B7 hBZ kZ;go_wp2_with fail;go_fit EW9;rintro e w9 ⟨rfl,hwk⟩;have HY:Hid (TakeX w g h q EH EW c .nilIface w9):=by
       obtain⟨EH',EW',hB',hpre,hk',hIv,hwr,hold⟩:=hwk;rw[e8] at hwr;have tw:=take_take HC.out HNN.out HFL.out HRY.out HFY.out hwr (rfl:Value.nilIface=Value.nilIface);refine⟨EH',EW',hB',(List.prefix_append _ _).trans hpre,HZ.out.trans hk',hIv,tw.1,tw.2,fun x hx=>?_⟩;have hx2:=hold x hx;rcases List.mem_append.1 hx2 with hx2 | hx2
       ·rcases List.mem_append.1 hx2 with hx2 | hx2
        ·exact Or.inl (List.mem_append_left _ hx2)
        ·rw[List.mem_singleton.1 hx2];exact Or.inr (HUZ.out.1.maps hk' HUZ.out.2.maps)
       ·exact Or.inl (List.mem_append_right _ hx2)
      clear EW9 hwk;go_wp2;go_ret;exact⟨_,rfl,HY.out⟩
 ·have e0:errV ce=.iface 82 (.int .i64 ce):=by unfold errV;rw[if_neg h0]
  rw[e0];have HZ:Hid (TakeX w g h q EH EW c (.iface 82 (.int .i64 ce)) w1):=HS.out (HX.out.1.trans (b1.mono HX.out.1.size)) (take_bad (by rw[hce];exact h0) (by rw[hce];exact e0.symm));clear hce h0 e0 E1 HX b1;go_wp2;go_ret;exact⟨_,rfl,HZ.out⟩
end Go.Proofs.YtamhlgflbacjgaaGreat
namespace Go.Proofs.YtamhlgflbacjgaaGreat
open Go.RowKit Go.Maps
theorem Bk.fresh {w:World} {g h q:Nat} (B:BookAt w g h q [] []):Bk w g h q [] []:=
 ⟨B,fun p hp=>by simp at hp,fun pre p post he=>by simp at he,by simp,fun r hr=>by simp at hr⟩
theorem IsChgs.keepH {S:List Nat} {w w':World} {v:Value} {l:List CX} (h:IsChgs w v l) (k:Kp S w w') (hn:NoCells w S):IsChgs w' v l:=by
 obtain⟨a,cap,rfl,h1,h2,hr,h3⟩:=h;refine⟨a,cap,rfl,h1,h2,fun x hx=>?_,fun hl=>?_⟩
 ·obtain⟨ud,uo,m,g1,g2,g3,g4,g5,g6,g7⟩:=hr x hx;exact⟨ud,uo,m,g1,g2,g3,g4,g5.keep k hn,g6.keep k hn,g7⟩
 ·obtain⟨b,off,rfl,h4,h5⟩:=h3 hl;have hb:b∉S:=fun e=>by
   have h6:=h5 0 (List.length_pos_iff.2 hl) 0 (by decide);rw[hn b e] at h6;simp at h6
  exact⟨b,off,rfl,Nat.lt_of_lt_of_le h4 k.size,fun i hi j hj=>by rw[k.cell (p:=⟨b,off+i*5+j,none⟩) h4 hb];exact h5 i hi j hj⟩
structure ArgH (w:World) (v:Value) (l:List CE):Prop where
 row:IsChgs w v (l.map toCX)
 each:∀p∈l,IsChgW w p.2 p.1
theorem ArgH.keep {S:List Nat} {w w':World} {v:Value} {l:List CE} (h:ArgH w v l) (k:Kp S w w') (hn:NoCells w S):ArgH w' v l:=
 ⟨h.row.keepH k hn,fun p hp=>(h.each p hp).keep k hn⟩
theorem ArgH.below {w w':World} {v:Value} {l:List CE} (h:ArgH w v l) (b:Below w.heap.size w w'):ArgH w' v l:=
 ⟨h.row.below b,fun p hp=>(h.each p hp).below b⟩
abbrev chgH1:Chg:={actor:=1,seq:=1,start:=1,deps:=[],ops:=[]}
abbrev valH1:Value:=.agg #[.int .i64 1,.int .i64 1,.int .i64 1,.slice none 0 0,.slice none 0 0]
theorem valH1_chg (w:World):IsChgW w valH1 chgH1:=
 ⟨_,_,[],rfl,by unfold I64;decide,⟨none,0,rfl,lRf,by simp,by simp,fun h=>absurd rfl h⟩,⟨none,0,rfl,lRf,by simp,by simp,fun h=>absurd rfl h⟩,rfl,by unfold Wh;simp,by unfold Wh;simp,by simp⟩
theorem chkH1:chk chgH1=0:=by decide
theorem fitH1:FitC [] chgH1:=by
 refine⟨[],⟨⟨(fun _ h=>by cases h),(fun _ h=>by cases h)⟩,(fun _ _ _ h=>by cases h)⟩,⟨(fun _ h=>by cases h),(fun h=>absurd h (by decide))⟩,(fun _ h=>by cases h),fun i hi=>?_⟩;exact absurd hi (Nat.not_lt_zero i)
theorem take_first {EH EW:List CE} {er:Value} (T:TakeR (chgsOf []) (chgsOf []) chgH1 (chgsOf EH) (chgsOf EW)) (X:ErrX (chgsOf []) (chgsOf []) chgH1 er):chgsOf EH=[chgH1]∧er=.nilIface:=by
 have n1:¬(chgH1.ref∈refsOf (chgsOf [])∨chgH1.ref∈refsOf (chgsOf [])):=fun h=>h.elim (fun h=>by cases h) (fun h=>by cases h);obtain⟨n,h,_⟩:=T.take chkH1 n1 (by decide) (fun _ h=>by cases h) fitH1;exact⟨(wsteps_nil n h).1,X.take chkH1 n1 (by decide) (fun _ h=>by cases h) fitH1⟩
theorem ArgH.at {w:World} {a:Option Addr} {n cap:Nat} {l:List CE} (h:ArgH w (.slice a n cap) l) {k:Nat} (hk:k<l.length):∃(p:CE) (b off:Nat) (ca cs ct:Int) (da:Option Addr) (dn dc:Nat) (oa:Option Addr) (on oc:Nat),l[k]=p∧p∈l∧IsChgW w p.2 p.1∧a=some ⟨b,off,none⟩∧p.2=.agg #[.int .i64 ca,.int .i64 cs,.int .i64 ct,.slice da dn dc,.slice oa on oc]∧w.cell? ⟨b,off+k*5,none⟩=some (.int .i64 ca)∧w.cell? ⟨b,off+k*5+1,none⟩=some (.int .i64 cs)∧w.cell? ⟨b,off+k*5+2,none⟩=some (.int .i64 ct)∧w.cell? ⟨b,off+k*5+3,none⟩=some (.slice da dn dc)∧w.cell? ⟨b,off+k*5+4,none⟩=some (.slice oa on oc):=by
 obtain⟨p,hp⟩:=gNz (l[k]);have hpm:p∈l:=by rw[←hp];exact List.getElem_mem _
 have hpw:=h.each p hpm;obtain⟨ca,cs,ct,da,dn,dc,oa,on,oc,hpv⟩:=hpw.cv;have hcs:(toCX p).cells=[.int .i64 ca,.int .i64 cs,.int .i64 ct,.slice da dn dc,.slice oa on oc]:=by rw[(toCX_val hpw.chg).2.2.2,hpv];rfl
 obtain⟨a',cap',hav,_,_,_,hrw⟩:=h.row;obtain⟨b,off,hab,_,hcl⟩:=hrw (fun e=>by rw[List.map_eq_nil_iff] at e;rw[e] at hk;simp at hk);have haa:a=some ⟨b,off,none⟩:=(Value.slice.inj hav).1.trans hab;have hcl':∀j,j<5→w.cell? ⟨b,off+k*5+j,none⟩=[Value.int .i64 ca,.int .i64 cs,.int .i64 ct,.slice da dn dc,.slice oa on oc][j]?:=fun j hj=>by
  have:=hcl k (by simpa using hk) j hj;rw[this,List.getElem_map,hp,hcs]
 exact⟨p,b,off,ca,cs,ct,da,dn,dc,oa,on,oc,hp,hpm,hpw,haa,hpv,hcl' 0 (by decide),hcl' 1 (by decide),hcl' 2 (by decide),hcl' 3 (by decide),hcl' 4 (by decide)⟩
end Go.Proofs.YtamhlgflbacjgaaGreat
namespace Go.Proofs.YtamhlgflbacjgaaGreat
open Go.RowKit Go.Sort
theorem sameRefs_any (v u:Value) (l:List Pr) (w:World) (hv:IsPairs w v l) (hu:IsPairs w u l):
 Calls Tryz.prog 15 #[v,u] w fun e w'=>e=.returned (.bool true)∧Below w.heap.size w w':=by
 obtain⟨va,vn,vc,rfl⟩:∃a n c,v=.slice a n c:=by obtain⟨a,c,e,_⟩:=hv;exact⟨_,_,_,e⟩
 obtain⟨ua,un,uc,rfl⟩:∃a n c,u=.slice a n c:=by obtain⟨a,c,e,_⟩:=hu;exact⟨_,_,_,e⟩
 obtain rfl:vn=un:=by
  obtain⟨a,c,e,_⟩:=hv;obtain⟨a',c',e',_⟩:=hu;rw[(Value.slice.inj e).2.1,(Value.slice.inj e').2.1]
 obtain⟨HN⟩:Nonempty (Hid (vn=l.length∧l.length≤8796093022208)):=⟨by obtain⟨a,c9,e,_,h2,_⟩:=hv;exact⟨(Value.slice.inj e).2.1,h2⟩⟩
 have HV:=hY2 hv hu;clear hv hu;go_enter Tryz.func15,Tryz.ntmps15
 go_wp2_with fail;go_loopw [5] (fun xi wr=>∃i:Nat,i≤l.length∧xi=.int .i64 i∧Hid (Below w.heap.size w wr)) (fun xi _=>l.length - (RowKit.intOf xi).toNat)
 case atStart=>exact⟨0,Nat.zero_le _,rfl,Below.refl _ _⟩
 case round=>
  obtain⟨i,hi,rfl,hR⟩:=hrel;by_cases hlt:i<l.length
  ·obtain⟨a',c',e9,_,_,_,h4⟩:=id HV.out.1;obtain⟨b,o,ha',h5,h6⟩:=h4 (fun e=>by rw[e] at hlt;simp at hlt);obtain⟨a'',c'',e8,_,_,_,h4'⟩:=id HV.out.2;obtain⟨b',o',ha'',h5',h6'⟩:=h4' (fun e=>by rw[e] at hlt;simp at hlt);have hva:va=some ⟨b,o,none⟩:=(Value.slice.inj e9).1.trans ha';have hua:ua=some ⟨b',o',none⟩:=(Value.slice.inj e8).1.trans ha'';subst hva hua;obtain⟨a,ha⟩:=gNz (l[i]:Pr);have y0:wr.cell? ⟨b,o+i*2,none⟩=some (.int .i64 a.1):=by rw[hR.out.cell (p:=⟨b,o+i*2,none⟩) h5,←ha];exact(h6 i hlt).1
   have y1:wr.cell? ⟨b,o+i*2+1,none⟩=some (.int .i64 a.2):=by rw[hR.out.cell (p:=⟨b,o+i*2+1,none⟩) h5,←ha];exact(h6 i hlt).2
   have z0:wr.cell? ⟨b',o'+i*2,none⟩=some (.int .i64 a.1):=by rw[hR.out.cell (p:=⟨b',o'+i*2,none⟩) h5',←ha];exact(h6' i hlt).1
   have z1:wr.cell? ⟨b',o'+i*2+1,none⟩=some (.int .i64 a.2):=by rw[hR.out.cell (p:=⟨b',o'+i*2+1,none⟩) h5',←ha];exact(h6' i hlt).2
   have HM:Hid (i<l.length):=hlt;have g1:(i:Int)<vn:=by have:=HN.out.1;omega
   have g3:(0:Int)≤i:=by omega
   have HD:Hid (Below w.heap.size w wr.drew):=drew_of hR.out;clear e9 h4 ha' h5 h6 e8 h4' ha'' h5' h6' ha hlt hi hR;go_upto_region 6 with fail
   refine rNh (fun W=>W.cell? ⟨b,o+i*2,none⟩=some (.int .i64 a.1)∧W.cell? ⟨b,o+i*2+1,none⟩=some (.int .i64 a.2)∧W.cell? ⟨b',o'+i*2,none⟩=some (.int .i64 a.1)∧W.cell? ⟨b',o'+i*2+1,none⟩=some (.int .i64 a.2)) (⟨y0,y1,z0,z1⟩) (fun hHeld=>?_);refine tk 0 rfl ?_;refine tk 1 rfl ?_;refine tk 2 rfl ?_;refine tk 3 rfl ?_;refine tk 4 rfl ?_;refine tk 5 rfl ?_;refine tk 6 rfl ?_;refine tk 7 rfl ?_;refine tk 8 rfl ?_;refine wDn ?_;clear hHeld y0 y1 z0 z1;generalize wr.drew=wd at *;go_upto_region 5 with fail
   have gm:(i:Int)<8796093022208:=by have:=HM.out;have:=HN.out.2;omega
   go_wp2;go_roundw
   case rel=>exact⟨i+1,HM.out,by go_num,HD.out⟩
   case measure=>have:=HM.out;simp[RowKit.intOf];omega
  ·have hme:¬(i:Int)<vn:=by have:=HN.out.1;omega
   have HE:Hid (Below w.heap.size w wr):=hR.out;clear hlt hi hR;go_wp2;go_ret;exact⟨rfl,HE.out⟩
end Go.Proofs.YtamhlgflbacjgaaGreat
