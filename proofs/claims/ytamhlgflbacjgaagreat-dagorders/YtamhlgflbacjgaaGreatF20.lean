/-
  What is proved: as each theorem says.
  Conditions: as each theorem says.
-/
import Derived.Test.YtamhlgflbacjgaaGreatF00
import Derived.Test.YtamhlgflbacjgaaGreatF01
import Derived.Lib.AppendStr
import Derived.Test.YtamhlgflbacjgaaGreatF03
set_option maxRecDepth 100000
set_option maxHeartbeats 16000000
namespace Go.Proofs.YtamhlgflbacjgaaGreat
open Go.RowKit
theorem rPut_any (n:Nat) (w:World) (hn:n<18446744073709551616):
 Calls Tryz.prog 147 #[.int .u64 n] w fun e w'=>∃v,e=.returned v∧Row w.heap.size v (put n) w'∧Below w.heap.size w w':=by
 obtain⟨i0,hi,hz0,hz1,hz2⟩:=info_parts infoB;go_enter Tryz.func147,Tryz.ntmps147
 go_wp2_with fail;go_loopw [0,3] (fun m b wr=>∃(k:Nat) (L:List UInt8),m=.int .u64 k∧k<18446744073709551616∧L++put k=put n∧Row w.heap.size b L wr∧Below w.heap.size w wr) (fun m _ _=>(RowKit.intOf m).toNat)
 case atStart=>exact⟨n,[],rfl,hn,rfl,World.ownsRow_nil w w.heap.size 5 1,Below.refl _ w⟩
 case round=>
  obtain⟨k,L,rfl,hk,he,hh,hbel⟩:=hrel;have hz:=hbel.size;have hL:L.length≤10:=by
   have h1:=put_len10 hn;rw[←he,List.length_append] at h1;omega
  have hl:=own_row_len hh;by_cases hlt:128≤k
  ·have HE:Hid ((L++[UInt8.ofNat (128+k % 128)])++put (k / 128)=put n):=by
    show _=_;rw[←he,put_more hlt];simp
   have hb:=byte_high k;generalize hc:UInt8.ofNat (128+k % 128)=c at *;have hcn:(128:Int)+(k:Int) % 128=(c.toNat:Int):=by omega
   have hw8:(k:Int) % 128+128=(c.toNat:Int):=by omega
   clear hc hb hcn he;have g1:(127:Int)<k:=by omega
   go_wp2_with (first | (at_builtin;refine wpList_append_own _ rfl _ _ 122 rfl w.heap.size 5 i0 (.int .u8 0) 1 1 Tryz.underlying122 hi hz0 hz1 hz2 rfl (by decide) _ _ _ rfl (hh.alloc _) ⟨wr.heap.size,0,none⟩ 1 1 (Lib.byteCells [c]) rfl rfl ?c1 ?c2 ?c3 ?c4 ?c5 ?_))
   case c1=>
    intro j u hj
    match j,hj with
    | 0,hj=>simp[Lib.byteCells] at hj;subst hj;first | (simp;done) | simp[Addr.add]
   case c2=>intro u hu;simp[Lib.byteCells] at hu;subst hu;rfl
   case c3=>unfold maxLen;omega
   case c4=>omega
   case c5=>first | (simp;omega) | omega
   intro v2 w2 hown hgrow _;obtain⟨R2,B2⟩:=row_grown (m:=[c]) hh hbel hz hgrow hown;clear hown hgrow;go_wp2;go_roundw
   case rel=>exact⟨k / 128,L++[c],by go_num,by omega,HE.out,R2,B2⟩
   case measure=>simp[RowKit.intOf];omega
  ·have HE:Hid (L++[UInt8.ofNat k]=put n):=by
    show _=_;rw[←he,put_small (by omega)]
   have hb:=byte_low (n:=k) (by omega);generalize hc:UInt8.ofNat k=c at *;have hcn:(k:Int)=(c.toNat:Int):=by omega
   have g1:¬(127:Int)<k:=by omega
   have HK:Hid ((k:Int)=(c.toNat:Int)):=hcn;clear hc hb he hcn;go_wp2_with (first | (at_builtin;refine wpList_append_own _ rfl _ _ 122 rfl w.heap.size 5 i0 (.int .u8 0) 1 1 Tryz.underlying122 hi hz0 hz1 hz2 rfl (by decide) _ _ _ rfl (hh.alloc _) ⟨wr.heap.size,0,none⟩ 1 1 (Lib.byteCells [c]) rfl rfl ?c1 ?c2 ?c3 ?c4 ?c5 ?_))
   case c1=>
    intro j u hj
    match j,hj with
    | 0,hj=>simp[Lib.byteCells] at hj;subst hj;simp;exact HK.out
   case c2=>intro u hu;simp[Lib.byteCells] at hu;subst hu;rfl
   case c3=>unfold maxLen;omega
   case c4=>omega
   case c5=>first | (simp;omega) | omega
   intro v2 w2 hown hgrow _;obtain⟨R2,B2⟩:=row_grown (m:=[c]) hh hbel hz hgrow hown;clear hown hgrow;go_wp2;go_ret;rw[HE.out] at R2;exact⟨_,rfl,R2,B2⟩
theorem rPutSigned_any (n:Int) (w:World) (h1: -9223372036854775808≤n) (h2:n<9223372036854775808):
 Calls Tryz.prog 117 #[.int .i64 n] w fun e w'=>∃v,e=.returned v∧Row w.heap.size v (put (zig n)) w'∧Below w.heap.size w w':=by
 have P:=rPut_any (zig n) w (zig_lt h1 h2);by_cases h:n<0
 ·have hz:(zig n:Int)= -(n+1)*2+1:=by
   unfold zig;rw[if_pos h];omega
  generalize zig n=d at *;rw[hz] at P;go_enter Tryz.func117,Tryz.ntmps117
  go_wp2_with fail;refine P.mono ?_;rintro e w1 ⟨u,rfl,R1,b1⟩;go_wp2;go_ret;exact⟨_,rfl,R1,b1⟩
 ·have hz:(zig n:Int)=n*2:=by
   unfold zig;rw[if_neg h];omega
  generalize zig n=d at *;rw[hz] at P;go_enter Tryz.func117,Tryz.ntmps117
  go_wp2_with fail;refine P.mono ?_;rintro e w1 ⟨u,rfl,R1,b1⟩;go_wp2;go_ret;exact⟨_,rfl,R1,b1⟩
structure Gr (B:Nat) (w w':World):Prop where
 bel:Below B w w'
 keep:∀(g:Nat) (cs:Array Value) (T:TypeId),T≠5→w.heap[g]?=some (.cells cs T)→w'.heap[g]?=some (.cells cs T)
theorem Gr.refl (B:Nat) (w:World):Gr B w w:=⟨Below.refl _ _,fun _ _ _ _ h=>h⟩
theorem Gr.trans {B:Nat} {w w1 w2:World} (h:Gr B w w1) (k:Gr B w1 w2):Gr B w w2:=⟨h.bel.trans k.bel,fun g cs T hT hg=>k.keep g cs T hT (h.keep g cs T hT hg)⟩
theorem Gr.of {B:Nat} {w w':World} (h:Below w.heap.size w w') (hB:B≤w.heap.size):Gr B w w':=⟨h.mono hB,fun _ _ _ _ hg=>heap_below hg h lRf⟩
theorem Gr.alloc (B:Nat) (w:World) (o:Obj) (hB:B≤w.heap.size):Gr B w (w.alloc o):=Gr.of (bAl w o) hB
theorem app_row {w:World} {ops:Array Oper} {rest:List Oper} {o:Oper} {a:Act} {Q:Exit→Act→World→Prop} (hgd:o.guard=none) (s x:Operand)
 (ho:o.op=.call {callee:=.builtin .append,args:=#[s,x],argTypes:=#[122,122]}) (B:Nat) (v:Value) (L:List UInt8) (hs:a.eval s=v) (hown:Row B v L w)
 (C:Nat) (vx:Value) (M:List UInt8) (hx:a.eval x=vx) (hM:Row C vx M w) (h0:M≠[]) (hsz:L.length+M.length≤1000000) (hB:B≤w.heap.size)
 (h:∀v' w',Row B v' (L++M) w'→Gr B w w'→wpList Tryz.prog ops Q rest (a.put o.dst v') w'):wpList Tryz.prog ops Q (o::rest) a w:=by
 obtain⟨i0,hi,hz0,hz1,hz2⟩:=info_parts infoB;obtain⟨g,c,rfl,t⟩:=row_text hM h0;refine wpList_append_own w hgd s x 122 ho B 5 i0 (.int .u8 0) 1 1 Tryz.underlying122 hi hz0 hz1 hz2 rfl (by decide) v L.length (Lib.byteCells L) hs hown ⟨g,0,none⟩ M.length c (Lib.byteCells M) hx (cells_len _) t (one_cell _) (by unfold maxLen;omega) (by omega) hB ?_;intro v' w' hown' hg _;obtain⟨R,b⟩:=row_grown0 (m:=M) hown (Below.refl B w) hB hg hown';exact h v' w' R ⟨b,fun g cs T hT hh=>box_grown0 hown hh hT hg⟩
theorem app_text {w:World} {ops:Array Oper} {rest:List Oper} {o:Oper} {a:Act} {Q:Exit→Act→World→Prop} (hgd:o.guard=none) (s x:Operand)
 (ho:o.op=.call {callee:=.builtin .append,args:=#[s,x],argTypes:=#[122,9]}) (B:Nat) (v:Value) (L:List UInt8) (hs:a.eval s=v) (hown:Row B v L w)
 (t:ByteArray) (hx:a.eval x=.string t) (hsz:L.length+t.size≤1000000) (hB:B≤w.heap.size)
 (h:∀v' w',Row B v' (L++t.data.toList) w'→Gr B w w'→wpList Tryz.prog ops Q rest (a.put o.dst v') w'):wpList Tryz.prog ops Q (o::rest) a w:=by
 obtain⟨i0,hi,hz0,hz1,hz2⟩:=info_parts infoB;refine Lib.wpList_append_own_string w hgd s x 122 9 ho B 5 i0 Tryz.underlying122 Tryz.underlying9 hi hz0 hz1 hz2 v L.length (Lib.byteCells L) hs hown t hx (by unfold maxLen;omega) (by omega) hB ?_;intro v' w' hown' hg _;have e:t.size=t.data.toList.length:=by rw[Array.length_toList];rfl
 have hc:Lib.strCells t=Lib.byteCells t.data.toList:=by
  simp[Lib.strCells,Lib.byteCells]
 rw[e,hc] at hown';obtain⟨R,b⟩:=row_grown0 (m:=t.data.toList) hown (Below.refl B w) hB hg hown';exact h v' w' R ⟨b,fun g cs T hT hh=>box_grown0 hown hh hT hg⟩
def encN (l:List Int):List UInt8:=l.flatMap fun n=>put n.toNat
theorem encN_append (l m:List Int):encN (l++m)=encN l++encN m:=by simp[encN]
theorem encN_len (l:List Int) (h:∀n∈l,0≤n∧n<9223372036854775808):(encN l).length≤10*l.length:=by
 induction l with
 | nil=>simp[encN]
 | cons n r ih=>
  have e:encN (n::r)=put n.toNat++encN r:=by simp[encN]
  have h1:=h n (by simp);have h2:=ih (fun x hx=>h x (by simp[hx]));have h3:=put_len10 (n:=n.toNat) (by omega);rw[e,List.length_append,List.length_cons];omega
theorem nums_any (B:Nat) (v:Value) (L:List UInt8) (g:Nat) (ns:List Int) (w:World) (hrow:Row B v L w) (hB:B≤w.heap.size) (hg:w.heap[g]?=some (.cells (ns.map (Value.int .i64)).toArray 3))
 (hn:∀n∈ns,0≤n∧n<9223372036854775808) (hL:L.length≤900000) (hl:ns.length≤10):
 Calls Tryz.prog 116 #[v,.slice (some ⟨g,0,none⟩) ns.length ns.length] w fun e w'=>∃u,e=.returned u∧Row B u (L++encN ns) w'∧Gr B w w':=by
 go_enter Tryz.func116,Tryz.ntmps116
 go_wp2_with fail;go_loopw [0,5] (fun o i wr=>∃k:Nat,k≤ns.length∧i=.int .i64 k∧Row B o (L++encN (ns.take k)) wr∧Gr B w wr) (fun _ i _=>ns.length - (RowKit.intOf i).toNat)
 case atStart=>exact⟨0,Nat.zero_le _,rfl,by simpa [encN] using hrow,Gr.refl _ _⟩
 case round=>
  clear hrow;obtain⟨k,hk,rfl,hh,hgr⟩:=hrel;have hz:=hgr.bel.size;by_cases hlt:k<ns.length
  ·have hg':=hgr.keep g _ 3 (by decide) hg;have x0:wr.cell? ⟨g,k,none⟩=some (.int .i64 ns[k]):=by
    rw[cLo hg',List.getElem?_toArray,List.getElem?_map,List.getElem?_eq_getElem hlt];rfl
   have hnk:=hn ns[k] (List.getElem_mem hlt);have hb:=encN_len (ns.take k) (fun n h=>hn n (List.mem_of_mem_take h));have hb2:(ns.take k).length≤k:=List.length_take_le _ _;have hQ:(L++encN (ns.take k)).length≤900100:=by rw[List.length_append];omega
   have HT:Hid (L++encN (ns.take (k+1))=(L++encN (ns.take k))++put ns[k].toNat):=by
    show _=_;rw[take_snoc ns k hlt,encN_append,List.append_assoc];simp[encN]
   obtain⟨N,hN⟩:∃N:Nat,ns[k]=N:=⟨ns[k].toNat,by omega⟩
   rw[hN] at x0 hnk;rw[hN,Int.toNat_natCast] at HT;have hpl:=put_len10 (n:=N) (by omega);have g1:(k:Int)<ns.length:=by omega
   have hl':=own_row_len hh;generalize L++encN (ns.take k)=Q at *;clear hb hb2 hN hn hg;go_wp2_with fail;refine(rPut_any N wr (by omega)).mono ?_;rintro e w2 ⟨u2,rfl,R2,b2⟩;have G2:=hgr.trans (Gr.of b2 (Nat.le_trans hB hz));have H2:Row B _ Q w2:=own_below hh b2 lRf;have hz2:=G2.bel.size;go_wp2_with (first | (at_builtin;refine app_row rfl _ _ rfl B _ Q rfl H2 _ _ (put N) rfl R2 (put_ne _) (by omega) (Nat.le_trans hB hz2) ?_));intro u3 w3 R3 G3;have G4:=G2.trans G3;clear hh R2 H2 G2 G3 b2;go_wp2;go_roundw
   case rel=>exact⟨k+1,hlt,by go_num,by rw[HT.out];exact R3,G4⟩
   case measure=>simp[RowKit.intOf];omega
  ·obtain rfl:k=ns.length:=by omega
   rw[List.take_of_length_le lRf] at hh;have g1:¬(ns.length:Int)<ns.length:=by omega
   clear hn hg;go_wp2;go_ret;exact⟨_,rfl,hh,hgr⟩
theorem nums_new (B:Nat) (v:Value) (L:List UInt8) (ns:List Int) (w:World) (hrow:Row B v L w) (hB:B≤w.heap.size)
 (hn:∀n∈ns,0≤n∧n<9223372036854775808) (hL:L.length≤900000) (hl:ns.length≤10):
 Calls Tryz.prog 116 #[v,.slice (some ⟨w.heap.size,0,none⟩) ns.length ns.length] (w.alloc (.cells (ns.map (Value.int .i64)).toArray 3)) fun e w'=>∃u,e=.returned u∧Row B u (L++encN ns) w'∧Gr B w w':=by
 refine(nums_any B v L w.heap.size ns _ (hrow.alloc _) (by simp;omega) (MapKept.heap_alloc w _).1 hn hL hl).mono ?_;rintro e w' ⟨u,h1,h2,h3⟩;exact⟨u,h1,h2,(Gr.alloc B w _ hB).trans h3⟩
def N63 (n:Int):Prop:=0≤n∧n<9223372036854775808
structure OpFit (o:OpM):Prop where
 kind:N63 o.kind
 obj:N63 o.obj.1∧N63 o.obj.2
 key:o.key.size≤20
 elem:N63 o.elem.1∧N63 o.elem.2
 vk:N63 o.val.k
 vn:I64 o.val.n
 vt:o.val.t.size≤60
 vo:o.val.o=0∧o.val.a=0
 preds:o.preds.length≤12∧∀q∈o.preds,N63 q.1∧N63 q.2
def encP (l:List Pr):List UInt8:=l.flatMap fun q=>encN [q.1,q.2]
def encT (t:ByteArray):List UInt8:=encN [(t.size:Int)]++t.data.toList
def encB (b:Bool):List UInt8:=encN [if b then 1 else 0]
def encV (v:V):List UInt8:=encN [v.k]++put (zig v.n)++encT v.t
def encOp (o:OpM):List UInt8:=encN [o.kind,o.obj.1,o.obj.2]++encT o.key++encN [o.elem.1,o.elem.2]++encB o.ins++encV o.val++encN [(o.preds.length:Int)]++encP o.preds
theorem encP_append (l m:List Pr):encP (l++m)=encP l++encP m:=by simp[encP]
theorem encP_len (l:List Pr) (h:∀q∈l,N63 q.1∧N63 q.2):(encP l).length≤20*l.length:=by
 induction l with
 | nil=>simp[encP]
 | cons q r ih=>
  have e:encP (q::r)=encN [q.1,q.2]++encP r:=by simp[encP]
  have h1:=h q (by simp);have h2:=ih (fun x hx=>h x (by simp[hx]));have h3:=encN_len [q.1,q.2] (by intro n hn;simp at hn;rcases hn with rfl | rfl;exact h1.1;exact h1.2);rw[e,List.length_append,List.length_cons];simp at h3;omega
theorem encT_len (t:ByteArray) (h:t.size≤60):(encT t).length≤70:=by
 unfold encT;have h3:=encN_len [(t.size:Int)] (by intro n hn;simp at hn;subst hn;omega);have e:t.data.toList.length=t.size:=by rw[Array.length_toList];rfl
 rw[List.length_append];simp only[List.length_cons,List.length_nil] at h3;omega
theorem encB_len (b:Bool):(encB b).length≤10:=by
 unfold encB;have:=encN_len [if b then (1:Int) else 0] (by intro n hn;simp at hn;subst hn;cases b <;> simp);simpa using this
theorem encV_len (v:V) (h1:N63 v.k) (h2:I64 v.n) (h3:v.t.size≤60):(encV v).length≤90:=by
 unfold encV;have h4:=encN_len [v.k] (by intro n hn;simp at hn;subst hn;exact h1);have h5:=put_len10 (zig_lt h2.1 h2.2);have h6:=encT_len v.t h3;rw[List.length_append,List.length_append];simp only[List.length_cons,List.length_nil] at h4;omega
theorem encOp_len (o:OpM) (h:OpFit o):(encOp o).length≤500:=by
 unfold encOp;have h1:=encN_len [o.kind,o.obj.1,o.obj.2] (by intro n hn;simp at hn;rcases hn with rfl | rfl | rfl;exact h.kind;exact h.obj.1;exact h.obj.2);have h2:=encT_len o.key (by have:=h.key;omega);have h3:=encN_len [o.elem.1,o.elem.2] (by intro n hn;simp at hn;rcases hn with rfl | rfl;exact h.elem.1;exact h.elem.2);have h4:=encB_len o.ins;have h5:=encV_len o.val h.vk h.vn h.vt;have h6:=encN_len [(o.preds.length:Int)] (by intro n hn;simp at hn;subst hn;have:=h.preds.1;omega);have h7:=encP_len o.preds h.preds.2;have h8:=h.preds.1;simp only[List.length_append,List.length_cons,List.length_nil] at *;omega
theorem nums1 {a:Int} (h:N63 a):∀n∈[a],0≤n∧n<9223372036854775808:=by intro n hn;simp at hn;subst hn;exact h
theorem nums2 {a b:Int} (h:N63 a) (k:N63 b):∀n∈[a,b],0≤n∧n<9223372036854775808:=by intro n hn;simp at hn;rcases hn with rfl | rfl;exact h;exact k
theorem nums4 {a b c d:Int} (h:N63 a) (k:N63 b) (m:N63 c) (p:N63 d):∀n∈[a,b,c,d],0≤n∧n<9223372036854775808:=by intro n hn;simp at hn;rcases hn with rfl | rfl | rfl | rfl;exact h;exact k;exact m;exact p
theorem encN_len1 {a:Int} (h:N63 a):(encN [a]).length≤10:=by simpa using encN_len [a] (nums1 h)
theorem encN_len4 {a b c d:Int} (h:N63 a) (k:N63 b) (m:N63 c) (p:N63 d):(encN [a,b,c,d]).length≤40:=by simpa using encN_len [a,b,c,d] (nums4 h k m p)
theorem ba_loop (b:ByteArray):∀(n i:Nat) (r:List UInt8),b.size - i=n→ByteArray.toList.loop b i r=r.reverse++b.data.toList.drop i:=by
 intro n
 induction n with
 | zero=>
  intro i r h;unfold ByteArray.toList.loop;have hs:¬i<b.size:=by omega
  rw[if_neg hs];have:b.data.toList.drop i=[]:=List.drop_eq_nil_of_le (by rw[Array.length_toList];exact Nat.le_of_not_lt hs);rw[this];simp
 | succ n ih=>
  intro i r h;unfold ByteArray.toList.loop;have hs:i<b.size:=by omega
  rw[if_pos hs,ih (i+1) _ (by omega)];have hl:i<b.data.toList.length:=by rw[Array.length_toList];exact hs
  rw[List.drop_eq_getElem_cons hl];have e:b.get! i=b.data.toList[i]:=by
   cases b with
   | mk d=>
    simp only[ByteArray.get!];have hd:i<d.size:=hs;simp[getElem!_pos,hd]
  rw[e];simp
theorem ba_list (b:ByteArray):b.toList=b.data.toList:=by
 unfold ByteArray.toList;rw[ba_loop b _ 0 [] rfl];simp
theorem ba_len (b:ByteArray):b.toList.length=b.size:=by rw[ba_list,Array.length_toList];rfl
theorem idOk_fit {n a:Int} (h:idOkB n a=true):N63 n∧N63 a:=by
 rcases(idOk_iff n a).1 h with⟨rfl,rfl⟩ | ⟨h1,h2,h3,h4⟩
 ·exact⟨by unfold N63;omega,by unfold N63;omega⟩
 ·exact⟨by unfold N63;omega,by unfold N63;omega⟩
theorem val_fit {v:V} (h:okB v=true):N63 v.k∧v.t.size≤60∧(v.k≠5→v.k≠6→v.o=0∧v.a=0):=by
 obtain⟨k,n,t,o,a⟩:=v;unfold okB at h;rw[Bool.and_eq_true] at h;obtain⟨hu,hs⟩:=h;unfold sameB at hs;simp only[Bool.and_eq_true,beq_iff_eq] at hs;obtain⟨-,-,ht,ho,ha⟩:=hs;have hempty:t.toList=ByteArray.empty.toList→t.size≤60:=by
  intro e;have:=congrArg List.length e;rw[ba_len,ba_len] at this;have e0:ByteArray.empty.size=0:=rfl;omega
 unfold usedB at hu;dsimp only at hu ⊢;unfold onlyV at ht ho ha;dsimp only at ht ho ha;by_cases h0:k=0∨k=2∨k=4
 ·by_cases hk0:k=0
  ·subst hk0;simp at ht ho ha;exact⟨by unfold N63;omega,hempty (by rw[ht,ba_list];rfl),fun _ _=>⟨ho,ha⟩⟩
  ·have hk:k=1∨k=2∨k=4:=by omega
   rw[if_pos hk] at ht ho ha;exact⟨by unfold N63;omega,hempty ht,fun _ _=>⟨ho,ha⟩⟩
 ·rw[if_neg h0] at hu;by_cases h1:k=1
  ·rw[if_pos (Or.inl h1)] at ht ho ha;exact⟨by unfold N63;omega,hempty ht,fun _ _=>⟨ho,ha⟩⟩
  ·rw[if_neg h1] at hu;have hn:¬(k=1∨k=2∨k=4):=by omega
   by_cases h3:k=3
   ·rw[if_pos h3,decide_eq_true_eq] at hu;rw[if_neg hn,if_pos h3] at ho ha;exact⟨by unfold N63;omega,by omega,fun _ _=>⟨ho,ha⟩⟩
   ·rw[if_neg h3] at hu;by_cases h5:k=5∨k=6
    ·rw[if_neg hn,if_neg h3,if_pos h5] at ht;exact⟨by unfold N63;omega,hempty ht,fun a b=>by omega⟩
    ·rw[if_neg h5] at hu;cases hu
theorem op_fit {o:OpM} (h:chkOp o=0) (hn:I64 o.val.n):OpFit o:=by
 unfold chkOp at h;split at h
 ·cases h
 ·rename_i h1;split at h
  ·cases h
  ·rename_i h2;split at h
   ·cases h
   ·split at h
    ·cases h
    ·split at h
     ·cases h
     ·rename_i h5;split at h
      ·cases h
      ·simp only[Bool.or_eq_true,Bool.not_eq_true',not_or,Bool.not_eq_false] at h1 h5;obtain⟨hk,hi⟩:=h1;obtain⟨hv,hm⟩:=h5;unfold fromB at hk;rw[decide_eq_true_eq] at hk;unfold hasIdsB at hi;simp only[Bool.and_eq_true,List.all_eq_true] at hi;obtain⟨hp,hob,hel⟩:=hi;obtain⟨f1,f2,f3⟩:=val_fit hv;refine⟨by unfold N63;omega,idOk_fit hob,by omega,idOk_fit hel,f1,hn,f2,?_,by omega,fun q hq=>idOk_fit (hp q hq).2⟩;by_cases h56:o.val.k=5∨o.val.k=6
       ·unfold mayHaveB at hm;split at hm
        ·simp[h56] at hm
        ·split at hm
         ·rw[Bool.and_eq_true] at hm;have:=hm.2;unfold rootB at this;rw[decide_eq_true_eq] at this;exact this
         ·split at hm
          ·rw[decide_eq_true_eq] at hm;omega
          ·rw[decide_eq_true_eq] at hm;omega
       ·exact f3 (fun e=>h56 (Or.inl e)) (fun e=>h56 (Or.inr e))
structure ChgFit (c:Chg):Prop where
 head:N63 c.actor∧N63 c.seq∧N63 c.start
 deps:c.deps.length≤12∧∀q∈c.deps,N63 q.1∧N63 q.2
 ops:c.ops.length≤40∧∀o∈c.ops,OpFit o
theorem chkOps_all {l:List OpM} (h:chkOps l=0):∀o∈l,chkOp o=0:=by
 induction l with
 | nil=>simp
 | cons o r ih=>
  rw[chkOps] at h;split at h
  ·rename_i h0;intro x hx;rcases List.mem_cons.1 hx with rfl | hx
   ·exact h0
   ·exact ih h x hx
  ·exact absurd h (by assumption)
theorem chg_fit {c:Chg} (h:chk c=0) (hn:∀o∈c.ops,I64 o.val.n):ChgFit c:=by
 unfold chk at h;split at h
 ·rename_i h0;unfold chkHead at h0;split at h0
  ·rename_i h1;simp only[Bool.and_eq_true] at h1;unfold fromB at h1;simp only[decide_eq_true_eq] at h1;split at h0
   ·cases h0
   ·rename_i h2;split at h0
    ·rename_i h3;split at h0
     ·cases h0
     ·rename_i h4;refine⟨⟨by unfold N63;omega,by unfold N63;omega,by unfold N63;omega⟩,⟨by omega,fun q hq=>?_⟩,by omega,fun o ho=>op_fit (chkOps_all h o ho) (hn o ho)⟩;unfold refsC at h3;split at h3
      ·rename_i h5;rw[List.all_eq_true] at h5;have:=h5 q hq;unfold refB fromB at this;simp only[Bool.and_eq_true,decide_eq_true_eq] at this;exact⟨by unfold N63;omega,by unfold N63;omega⟩
      ·cases h3
    ·rename_i h3;exact absurd h0 h3
  ·cases h0
 ·rename_i h0;exact absurd h h0
def encOs (l:List OpM):List UInt8:=l.flatMap encOp
def encC (c:Chg):List UInt8:=encN [c.actor,c.seq,c.start,(c.deps.length:Int)]++encP c.deps++encN [(c.ops.length:Int)]++encOs c.ops
theorem encOs_append (l m:List OpM):encOs (l++m)=encOs l++encOs m:=by simp[encOs]
theorem encOs_len (l:List OpM) (h:∀o∈l,OpFit o):(encOs l).length≤500*l.length:=by
 induction l with
 | nil=>simp[encOs]
 | cons o r ih=>
  have e:encOs (o::r)=encOp o++encOs r:=by simp[encOs]
  have h1:=encOp_len o (h o (by simp));have h2:=ih (fun x hx=>h x (by simp[hx]));rw[e,List.length_append,List.length_cons];omega
end Go.Proofs.YtamhlgflbacjgaaGreat
