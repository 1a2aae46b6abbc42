/-
  What is proved: as each theorem says.
  Conditions: as each theorem says.
-/
import Derived.Test.YtamhlgflbacjgaaGreatF00
import Derived.Test.YtamhlgflbacjgaaGreatProg
import Derived.WalkKit
import Derived.WalkSpells
import Derived.WalkLawsBesides
import Derived.Sort.Walk0
import Derived.Lib.BufferRead
import Derived.Deep.RegionHeld3
import Derived.Handy
import Derived.Deep.RegionWith
set_option maxRecDepth 100000
set_option maxHeartbeats 16000000
namespace Go.Proofs.YtamhlgflbacjgaaGreat
open Go.RowKit Go.Maps
def rawElem (v:Value):Option (DataW Value×List MemPlace):=some (.held v,[])
def lk (L:List (Pr×Value)) (r:Pr):Option Value:=(L.find? (fun q=>q.1==r)).map (·.2)
theorem lk_none {L:List (Pr×Value)} {r:Pr}:lk L r=none↔r∉L.map (·.1):=by
 unfold lk;rw[Option.map_eq_none_iff,List.find?_eq_none];constructor
 ·intro h e;obtain⟨q,hq,rfl⟩:=List.mem_map.1 e;exact h q hq (by simp)
 ·intro h q hq e;exact h (List.mem_map.2 ⟨q,hq,by simpa using e⟩)
theorem lk_mem {L:List (Pr×Value)} {r:Pr} {v:Value} (h:lk L r=some v):(r,v)∈L:=by
 unfold lk at h;obtain⟨q,hq,rfl⟩:=Option.map_eq_some_iff.1 h;have h1:=List.mem_of_find?_eq_some hq;have h2:=List.find?_some hq;simp at h2;subst h2;exact h1
theorem lk_append (L M:List (Pr×Value)) (r:Pr):lk (L++M) r=(lk L r).or (lk M r):=by
 unfold lk;rw[List.find?_append];cases L.find? (fun q=>q.1==r) <;> simp
theorem lk_filter_ne (L:List (Pr×Value)) {r s:Pr} (h:s≠r):lk (L.filter fun q=>q.1 !=r) s=lk L s:=by
 unfold lk;rw[Maps.find_filter_keep (fun p hp=>by simp at hp ⊢;rw[hp];exact h)]
theorem lk_filter_eq (L:List (Pr×Value)) (r:Pr):lk (L.filter fun q=>q.1 !=r) r=none:=by
 rw[lk_none];intro e;obtain⟨q,hq,e⟩:=List.mem_map.1 e;have:=(List.mem_filter.1 hq).2;simp at this;exact this e
def putL (L:List (Pr×Value)) (r:Pr) (v:Value):List (Pr×Value):=(L.filter fun q=>q.1 !=r)++[(r,v)]
theorem putL_new {L:List (Pr×Value)} {r:Pr} (h:lk L r=none) (v:Value):putL L r v=L++[(r,v)]:=by
 unfold putL;rw[List.filter_eq_self.2];intro q hq;have:=lk_none.1 h;simp;exact fun e=>this (List.mem_map.2 ⟨q,hq,e⟩)
theorem lk_putL (L:List (Pr×Value)) (r s:Pr) (v:Value):lk (putL L r v) s=if s=r then some v else lk L s:=by
 unfold putL;rw[lk_append];split
 ·rename_i e;subst e;rw[lk_filter_eq];simp[lk]
 ·rename_i e;rw[lk_filter_ne L e];have:lk [(r,v)] s=none:=by rw[lk_none];simpa using e
  rw[this];simp
structure MapL (w:World) (b:Nat) (L:List (Pr×Value)):Prop where
 own:∃D:DataW Value,w.ownsMap Tryz.prog 45 rawElem b L.length D∧(∀r,R64 r→Maps.has D (refL r)=(lk L r).isSome)∧(∀r v,R64 r→lk L r=some v→∀z,D.atKey (refL r) z=.held v)∧Maps.size D=L.length
 nd:(L.map (·.1)).Nodup
 r64:∀q∈L,R64 q.1
theorem own_tight {w:World} {b n:Nat} {D:DataW Value} (h:w.ownsMap Tryz.prog 45 rawElem b n D):w.ownsMap Tryz.prog 45 rawElem b (Maps.size D) D:=by
 obtain⟨es,clock,hb,F,_,rfl⟩:=h;exact⟨es,clock,hb,F,by rw[Maps.size_eq,length_read];exact lRf,rfl⟩
theorem MapL.made (w:World):MapL (w.alloc (.map #[] 0)) w.heap.size []:=
 ⟨⟨.map [],World.ownsMap_made w _ _ _,fun r _=>rfl,(fun r v _ h=>by cases h),rfl⟩,by simp,by simp⟩
theorem MapL.lt {w:World} {b:Nat} {L:List (Pr×Value)} (h:MapL w b L):b<w.heap.size:=by
 obtain⟨D,h1,_⟩:=h.own;exact h1.lt
theorem MapL.grown {w w':World} {b:Nat} {L:List (Pr×Value)} {row:Option Nat} (h:MapL w b L) (hg:w.grownBy w' row) (hb:some b≠row):MapL w' b L:=by
 obtain⟨D,h1,h2⟩:=h.own;exact⟨⟨D,h1.kept hg hb,h2⟩,h.nd,h.r64⟩
theorem MapL.below {w w':World} {b:Nat} {L:List (Pr×Value)} (h:MapL w b L) (hb:Below w.heap.size w w'):MapL w' b L:=
 h.grown (row:=none) ⟨hb.os,hb.tape,hb.output,hb.size,fun k hk _=>hb.block k hk⟩ (by simp)
theorem MapL.look {w:World} {b:Nat} {L:List (Pr×Value)} (h:MapL w b L) {T E:TypeId} (ht:Tryz.prog.underlying T=some (.map 45 E)) {z:Value} (hz:(zeroValue E).run Tryz.prog w=.ok z w) {r:Pr} (hr:R64 r):
 (Instr.lookup T (.map (some b)) (refV r) true).run Tryz.prog w=.ok (.tuple #[(lk L r).getD z,.bool (lk L r).isSome]) w:=by
 obtain⟨D,h1,h2,h3,h4⟩:=h.own;obtain⟨v,ps,hrun,hv⟩:=h1.look_ok refLaw ht hz (zd:=.held z) (zp:=[]) rfl (keyOf_ref hr);rw[hrun,h2 r hr];have e:DataW.held v=D.atKey (refL r) (.held z):=by
  have:=congrArg Prod.fst (Option.some.inj hv);exact this
 cases hl:lk L r with
 | none=>
  have hh:Maps.has D (refL r)=false:=by rw[h2 r hr,hl];rfl
  rw[Maps.atKey_of_not_has hh] at e;rw[DataW.held.inj e];rfl
 | some u=>
  rw[h3 r u hr hl] at e;rw[DataW.held.inj e];rfl
theorem MapL.look1 {w:World} {b:Nat} {L:List (Pr×Value)} (h:MapL w b L) {T E:TypeId} (ht:Tryz.prog.underlying T=some (.map 45 E)) {z:Value} (hz:(zeroValue E).run Tryz.prog w=.ok z w) {r:Pr} (hr:R64 r):
 (Instr.lookup T (.map (some b)) (refV r) false).run Tryz.prog w=.ok ((lk L r).getD z) w:=by
 obtain⟨D,h1,h2,h3,h4⟩:=h.own;obtain⟨v,ps,hrun,hv⟩:=h1.lookup refLaw ht hz (zd:=.held z) (zp:=[]) rfl (keyOf_ref hr);rw[hrun];have e:DataW.held v=D.atKey (refL r) (.held z):=by
  have:=congrArg Prod.fst (Option.some.inj hv);exact this
 cases hl:lk L r with
 | none=>
  have hh:Maps.has D (refL r)=false:=by rw[h2 r hr,hl];rfl
  rw[Maps.atKey_of_not_has hh] at e;rw[DataW.held.inj e];rfl
 | some u=>
  rw[h3 r u hr hl] at e;rw[DataW.held.inj e];rfl
theorem MapL.len {w:World} {b:Nat} {L:List (Pr×Value)} (h:MapL w b L) {T E:TypeId} (ht:Tryz.prog.underlying T=some (.map 45 E)) (ty:TypeId):(Builtin.len_ #[T] ty #[.map (some b)]).run Tryz.prog w=.ok (.int .i64 L.length) w:=by
 obtain⟨D,h1,h2,h3,h4⟩:=h.own;rw[h1.len ht ty,h4]
theorem putL_len (L:List (Pr×Value)) (hn:(L.map (·.1)).Nodup) (r:Pr) (v:Value):(putL L r v).length=if (lk L r).isSome then L.length else L.length+1:=by
 cases hl:lk L r with
 | none=>rw[putL_new hl];simp
 | some u=>
  have hm:=lk_mem hl;unfold putL;simp only[List.length_append,List.length_singleton,Option.isSome_some,if_true];have:(L.filter fun q=>q.1 !=r).length+1=L.length:=by
   clear hl
   induction L with
   | nil=>cases hm
   | cons q L ih=>
    simp only[List.map_cons,List.nodup_cons] at hn;rcases List.mem_cons.1 hm with e | e
    ·subst e;have:L.filter (fun q=>q.1 !=r)=L:=List.filter_eq_self.2 (fun q hq=>by simp;exact fun e=>hn.1 (List.mem_map.2 ⟨q,hq,e⟩));simp[this]
    ·have hne:q.1≠r:=fun e1=>hn.1 (List.mem_map.2 ⟨_,e,e1.symm⟩);rw[List.filter_cons_of_pos (by simpa using hne)];have:=ih hn.2 e;simp only[List.length_cons];omega
  exact this
theorem nodup_put {L:List (Pr×Value)} (hn:(L.map (·.1)).Nodup) (r:Pr) (v:Value):((putL L r v).map (·.1)).Nodup:=by
 unfold putL;rw[List.map_append,List.nodup_append];refine⟨List.Nodup.sublist (List.Sublist.map _ List.filter_sublist) hn,by simp,?_⟩;intro x hx y hy e;simp only[List.map_cons,List.map_nil,List.mem_singleton] at hy;subst hy e;obtain⟨q,hq,e⟩:=List.mem_map.1 hx;have:=(List.mem_filter.1 hq).2;simp at this;exact this e
theorem MapL.put {w:World} {b:Nat} {L:List (Pr×Value)} (h:MapL w b L) {T E:TypeId} (ht:Tryz.prog.underlying T=some (.map 45 E)) {r:Pr} (hr:R64 r) (hL:L.length<1000000) (v:Value):
 ∃w',(Instr.mapUpdate T (.map (some b)) (refV r) v).run Tryz.prog w=.ok () w'∧MapL w' b (putL L r v)∧w.mapTurned w' b:=by
 obtain⟨D,h1,h2,h3,h4⟩:=h.own;obtain⟨w',hrun,hown,hturn⟩:=h1.store refLaw ht (by unfold maxLen;omega) (keyOf_ref hr) (val:=v) (d:=.held v) (ps:=[]) rfl;have hsz:Maps.size (D.put (refL r) (.held v))=(putL L r v).length:=by
  rw[Maps.size_put (h1.tidy refLaw),h2 r hr,h4,putL_len L h.nd]
 refine⟨w',hrun,⟨⟨_,?_,fun s hs=>?_,fun s u hs hl z=>?_,hsz⟩,nodup_put h.nd r v,fun q hq=>?_⟩,hturn⟩
 ·rw[←hsz];exact own_tight hown
 ·rw[lk_putL];split
  ·rename_i e;subst e;rw[Maps.has_put_same h1.isMap (refL_key _)];rfl
  ·rename_i e;rw[Maps.has_put_other (fun e1=>e (refL_inj hs hr e1)),h2 s hs]
 ·rw[lk_putL] at hl;split at hl
  ·rename_i e;subst e;rw[Maps.atKey_put_same h1.isMap (refL_key _)];rw[Option.some.inj hl]
  ·rename_i e;rw[Maps.atKey_put_other (fun e1=>e (refL_inj hs hr e1))];exact h3 s u hs hl z
 ·unfold putL at hq;rcases List.mem_append.1 hq with h5 | h5
  ·exact h.r64 q (List.mem_filter.1 h5).1
  ·rw[List.mem_singleton.1 h5];exact hr
theorem filter_len {L:List (Pr×Value)} (hn:(L.map (·.1)).Nodup) (r:Pr):(L.filter fun q=>q.1 !=r).length+(if (lk L r).isSome then 1 else 0)=L.length:=by
 have h1:=putL_len L hn r (.bool true);unfold putL at h1;simp only[List.length_append,List.length_singleton] at h1;split at h1 <;> simp_all <;> omega
theorem MapL.del {w:World} {b:Nat} {L:List (Pr×Value)} (h:MapL w b L) {T E:TypeId} (ht:Tryz.prog.underlying T=some (.map 45 E)) {r:Pr} (hr:R64 r) (ty:TypeId):
 ∃w',(Builtin.delete_ #[T,45] ty #[.map (some b),refV r]).run Tryz.prog w=.ok (.tuple #[]) w'∧MapL w' b (L.filter fun q=>q.1 !=r)∧w.mapTurned w' b:=by
 obtain⟨D,h1,h2,h3,h4⟩:=h.own;obtain⟨w',hrun,hown,hturn⟩:=h1.drop refLaw ht (keyOf_ref hr) ty;have hsz:Maps.size (D.del (refL r))=(L.filter fun q=>q.1 !=r).length:=by
  have e1:=Maps.size_del (k:=refL r) (h1.tidy refLaw);have e2:=filter_len h.nd r;rw[h2 r hr,h4] at e1;omega
 refine⟨w',hrun,⟨⟨_,?_,fun s hs=>?_,fun s u hs hl z=>?_,hsz⟩,List.Nodup.sublist (List.Sublist.map _ List.filter_sublist) h.nd,fun q hq=>h.r64 q (List.mem_filter.1 hq).1⟩,hturn⟩
 ·rw[←hsz];exact own_tight hown
 ·by_cases e:s=r
  ·subst e;rw[Maps.has_del_same,lk_filter_eq];rfl
  ·rw[Maps.has_del_other (fun e1=>e (refL_inj hs hr e1)),lk_filter_ne L e,h2 s hs]
 ·by_cases e:s=r
  ·subst e;rw[lk_filter_eq] at hl;cases hl
  ·rw[lk_filter_ne L e] at hl;rw[Maps.atKey_del_other (fun e1=>e (refL_inj hs hr e1))];exact h3 s u hs hl z
end Go.Proofs.YtamhlgflbacjgaaGreat
namespace Go.Proofs.YtamhlgflbacjgaaGreat
open Go.RowKit
def Real (n a:Int):Prop:=1≤n∧n≤1000000∧1≤a∧a≤99
def Bad (n a:Int):Prop:=¬(n=0∧a=0)∧¬Real n a
def lessB (n a m b:Int):Bool:=if n=m then decide (a<b) else decide (n<m)
theorem check_root (w:World):
 Calls Tryz.prog 136 #[.agg #[.int .i64 0,.int .i64 0]] w fun e w'=>e=.returned .nilIface∧Below w.heap.size w w':=by
 go_enter Tryz.func136,Tryz.ntmps136
 go_wp2;go_ret;exact⟨rfl,(bAl _ _).alloc (by simp) _⟩
theorem check_real (n a:Int) (w:World) (h:Real n a):
 Calls Tryz.prog 136 #[.agg #[.int .i64 n,.int .i64 a]] w fun e w'=>e=.returned .nilIface∧Below w.heap.size w w':=by
 obtain⟨h1,h2,h3,h4⟩:=h;have h0:¬n=0:=by omega
 go_enter Tryz.func136,Tryz.ntmps136
 go_wp2;go_ret;exact⟨rfl,(bAl _ _).alloc (by simp) _⟩
theorem check_bad (n a:Int) (w:World) (h:Bad n a):
 Calls Tryz.prog 136 #[.agg #[.int .i64 n,.int .i64 a]] w fun e w'=>e=.returned (.iface 82 (.int .i64 1))∧Below w.heap.size w w':=by
 obtain⟨hr,hn⟩:=h;unfold Real at hn;by_cases h0:n=0
 ·have h1:¬a=0:=fun e=>hr ⟨h0,e⟩;subst h0;clear hr hn;go_enter Tryz.func136,Tryz.ntmps136
  go_wp2;go_ret;exact⟨rfl,(bAl _ _).alloc (by simp) _⟩
 ·clear hr;by_cases h1:1≤n
  ·by_cases h2:n≤1000000
   ·by_cases h3:1≤a
    ·have h4:¬a≤99:=fun e=>hn ⟨h1,h2,h3,e⟩;clear hn;go_enter Tryz.func136,Tryz.ntmps136
     go_wp2;go_ret;exact⟨rfl,(bAl _ _).alloc (by simp) _⟩
    ·clear hn;go_enter Tryz.func136,Tryz.ntmps136
     go_wp2;go_ret;exact⟨rfl,(bAl _ _).alloc (by simp) _⟩
   ·clear hn;go_enter Tryz.func136,Tryz.ntmps136
    go_wp2;go_ret;exact⟨rfl,(bAl _ _).alloc (by simp) _⟩
  ·clear hn;go_enter Tryz.func136,Tryz.ntmps136
   go_wp2;go_ret;exact⟨rfl,(bAl _ _).alloc (by simp) _⟩
theorem less_any (n a m b:Int) (w:World):
 Calls Tryz.prog 137 #[.agg #[.int .i64 n,.int .i64 a],.agg #[.int .i64 m,.int .i64 b]] w fun e w'=>e=.returned (.bool (lessB n a m b))∧Below w.heap.size w w':=by
 unfold lessB;by_cases h:n=m
 ·subst h;go_enter Tryz.func137,Tryz.ntmps137
  go_wp2;go_ret;exact⟨by simp,(bAl _ _).alloc (by simp) _⟩
 ·have h':(n==m)=false:=by simp[h]
  go_enter Tryz.func137,Tryz.ntmps137
  go_wp2;go_ret;exact⟨by simp,(bAl _ _).alloc (by simp) _⟩
end Go.Proofs.YtamhlgflbacjgaaGreat
namespace Go.Proofs.YtamhlgflbacjgaaGreat
def cI (x y:Int):Int:=if x<y then -1 else if y<x then 1 else 0
def or2 (x y:Int):Int:=if x=0 then y else x
structure V where
 k:Int
 n:Int
 t:ByteArray
 o:Int
 a:Int
def V.val (v:V):Value:=.agg #[.int .i64 v.k,.int .i64 v.n,.string v.t,.int .i64 v.o,.int .i64 v.a]
def V.key (v:V):Int×Int×List UInt8×Int×Int:=(v.k,v.n,v.t.toList,v.o,v.a)
end Go.Proofs.YtamhlgflbacjgaaGreat
namespace Go.Proofs.YtamhlgflbacjgaaGreat
open Go.RowKit
abbrev St:Type:=Option (List UInt8)
def rest (s:St):List UInt8:=s.getD []
structure OpM where
 kind:Int
 obj:Pr
 key:ByteArray
 elem:Pr
 ins:Bool
 val:V
 preds:List Pr
structure Chg where
 actor:Int
 seq:Int
 start:Int
 deps:List Pr
 ops:List OpM
abbrev opA (o : OpM) (b : Bool) (p : Value) : Array Value := #[.int .i64 o.kind, .int .i64 o.obj.1, .int .i64 o.obj.2, .string o.key, .int .i64 o.elem.1, .int .i64 o.elem.2, .bool b, .int .i64 o.val.k, .int .i64 o.val.n, .string o.val.t, .int .i64 o.val.o, .int .i64 o.val.a, p]
abbrev opB (o : OpM) (b : Bool) (p : Value) (x y : Int) : Array Value := #[.int .i64 o.kind, .int .i64 o.obj.1, .int .i64 o.obj.2, .string o.key, .int .i64 o.elem.1, .int .i64 o.elem.2, .bool b, .int .i64 o.val.k, .int .i64 o.val.n, .string o.val.t, .int .i64 o.val.o, .int .i64 o.val.a, p, .int .i64 x, .int .i64 y]
def Wh (v:Value):Prop:=v=.slice none 0 0∨∃ad n c,v=.slice (some ad) n c
theorem set_at {w:World} {g:Nat} {cs:Array Value} {T:TypeId} (h:w.heap[g]?=some (.cells cs T)) (i:Nat) (u:Value):(w.setCell ⟨g,i,none⟩ u).heap[g]?=some (.cells (cs.setIfInBounds i u) T):=
 heap_setCell_same w g i _ _ u h
theorem Off.ahead {g:Nat} {w w':World} {o:Obj} (h:Off g (w.alloc o) w'):Off g w w':=(Off.of (bAl w o)).trans h
theorem Off.more {g:Nat} {w w1 w2:World} (h:Off g w w1) (k:Below w.heap.size w1 w2):Off g w w2:=
 ⟨k.os.trans h.os,k.tape.trans h.tape,k.output.trans h.output,Nat.le_trans h.size k.size,fun b hb hg=>(k.block b hb).trans (h.block b hb hg)⟩
theorem infoR:(Tryz.prog.info? 45).map (fun i=>(i.zero,i.size,i.bytes))=some (some (.agg #[.int .i64 0,.int .i64 0]),2,16):=by kernel_rfl
theorem infoD:(Tryz.prog.info? 49).map (fun i=>(i.zero,i.size,i.bytes))=some (some (.agg #[.int .i64 0,.int .i64 0]),2,16):=by kernel_rfl
def opCells (o:OpM) (vp:Value):List Value:=[.int .i64 o.kind,.int .i64 o.obj.1,.int .i64 o.obj.2,.string o.key,.int .i64 o.elem.1,.int .i64 o.elem.2,.bool o.ins,.int .i64 o.val.k,.int .i64 o.val.n,.string o.val.t,.int .i64 o.val.o,.int .i64 o.val.a,vp]
def opVal (o:OpM) (vp:Value):Value:=.agg (opCells o vp).toArray
abbrev OV:Type:=OpM×Value
def ocells (l:List OV):List Value:=l.flatMap fun q=>opCells q.1 q.2
theorem ocells_append (p q:List OV):ocells (p++q)=ocells p++ocells q:=by simp[ocells]
theorem ocells_len (p:List OV):(ocells p).length=p.length*13:=by
 induction p with
 | nil=>rfl
 | cons q r ih=>
  unfold ocells at ih ⊢;rw[List.flatMap_cons,List.length_append,ih];simp[opCells];omega
theorem ocells_at (p:List OV) (i:Nat) (h:i<p.length) (j:Nat) (hj:j<13):(ocells p)[i*13+j]?=(opCells p[i].1 p[i].2)[j]?:=by
 induction p generalizing i with
 | nil=>simp at h
 | cons q r ih=>
  have e:ocells (q::r)=opCells q.1 q.2++ocells r:=by simp[ocells]
  rw[e];have hl:(opCells q.1 q.2).length=13:=rfl;cases i with
  | zero=>rw[List.getElem?_append_left (by omega)];simp
  | succ i=>
   rw[List.getElem?_append_right (by omega),hl,show(i+1)*13+j - 13=i*13+j from by omega];simpa using ih i (by simpa using h)
abbrev RowO (B:Nat) (v:Value) (l:List OV) (w:World):Prop:=w.ownsRow B 62 13 v l.length (ocells l)
theorem rowO_len {B:Nat} {v:Value} {l:List OV} {w:World} (h:RowO B v l w):∃a c,v=.slice a l.length c:=by
 rcases h.2 with⟨rfl,h0⟩ | ⟨g,cap,cur,rfl,_⟩
 ·exact⟨none,0,by rw[h0]⟩
 ·exact⟨_,_,rfl⟩
theorem infoO:(Tryz.prog.info? 62).map (fun i=>(i.zero,i.size,i.bytes))=some (some (.agg #[.int .i64 0,.int .i64 0,.int .i64 0,.string .empty,.int .i64 0,.int .i64 0,.bool false,.int .i64 0,.int .i64 0,.string .empty,.int .i64 0,.int .i64 0,.slice none 0 0]),13,136):=by kernel_rfl
def OpNums (o:OpM):Prop:=I64 o.kind∧(I64 o.obj.1∧I64 o.obj.2)∧(I64 o.elem.1∧I64 o.elem.2)∧I64 o.val.k∧I64 o.val.n∧I64 o.val.o∧I64 o.val.a
def IsOps (w:World) (v:Value) (l:List OV):Prop:=
 ∃a cap,v=.slice a l.length cap∧l.length≤cap∧l.length≤1099511627776∧(∀q∈l,IsPairs w q.2 q.1.preds∧OpNums q.1)∧(l≠[]→∃b off,a=some ⟨b,off,none⟩∧b<w.heap.size∧∀i (h:i<l.length) j,j<13→w.cell? ⟨b,off+i*13+j,none⟩=(opCells l[i].1 l[i].2)[j]?)
theorem IsOps.below {w w':World} {v:Value} {l:List OV} (h:IsOps w v l) (hb:Below w.heap.size w w'):IsOps w' v l:=by
 obtain⟨a,cap,rfl,h1,h2,hr,h3⟩:=h;refine⟨a,cap,rfl,h1,h2,fun q hq=>⟨(hr q hq).1.below hb,(hr q hq).2⟩,fun hl=>?_⟩;obtain⟨b,off,rfl,h4,h5⟩:=h3 hl;exact⟨b,off,rfl,Nat.lt_of_lt_of_le h4 hb.size,fun i hi j hj=>by rw[hb.cell (p:=⟨b,off+i*13+j,none⟩) h4];exact h5 i hi j hj⟩
def IsChg (w:World) (v:Value) (c:Chg):Prop:=
 ∃ud uo l,v=.agg #[.int .i64 c.actor,.int .i64 c.seq,.int .i64 c.start,ud,uo]∧I64 c.actor∧I64 c.seq∧I64 c.start∧IsPairs w ud c.deps∧IsOps w uo l∧l.map (·.1)=c.ops
theorem IsChg.below {w w':World} {v:Value} {c:Chg} (h:IsChg w v c) (hb:Below w.heap.size w w'):IsChg w' v c:=by
 obtain⟨ud,uo,l,h1,h2,h3,h4,h5,h6,h7⟩:=h;exact⟨ud,uo,l,h1,h2,h3,h4,h5.below hb,h6.below hb,h7⟩
theorem RowO.ops {B:Nat} {w:World} {v:Value} {l:List OV} (h:RowO B v l w) (hl:l.length≤1099511627776) (hr:∀q∈l,IsPairs w q.2 q.1.preds∧OpNums q.1):IsOps w v l:=by
 rcases h.2 with⟨rfl,h0⟩ | ⟨g,cap,cur,rfl,hg,hh,hc,hm,hz,ht⟩
 ·exact⟨none,0,by rw[h0],by omega,hl,hr,fun h=>absurd (List.length_eq_zero_iff.1 h0) h⟩
 ·refine⟨_,cap,rfl,hc,hl,hr,fun _=>⟨g,0,rfl,?_,fun i hi j hj=>?_⟩⟩
  ·rcases Nat.lt_or_ge g w.heap.size with h1 | h1
   ·exact h1
   ·rw[Array.getElem?_eq_none h1] at hh;cases hh
  ·rw[Nat.zero_add,h.cellAt (i*13+j) (by omega),ocells_at l i hi j hj]
end Go.Proofs.YtamhlgflbacjgaaGreat
namespace Go.Proofs.YtamhlgflbacjgaaGreat
open Go.RowKit Go.Sort
def IdOk (n a:Int):Prop:=(n=0∧a=0)∨Real n a
def idOkB (n a:Int):Bool:=decide (n=0∧a=0) || decide (1≤n∧n≤1000000∧1≤a∧a≤99)
theorem idOk_iff (n a:Int):idOkB n a=true↔IdOk n a:=by
 unfold idOkB IdOk Real;rw[Bool.or_eq_true,decide_eq_true_eq,decide_eq_true_eq]
theorem idOk_no (n a:Int) (h:¬IdOk n a):idOkB n a=false:=by
 cases e:idOkB n a with
 | true=>exact absurd ((idOk_iff n a).1 e) h
 | false=>rfl
def usedB (v:V):Bool:=
 if v.k=0∨v.k=2∨v.k=4 then true else if v.k=1 then decide (v.n=0∨v.n=1) else if v.k=3 then decide ((v.t.size:Int)≤60) else if v.k=5∨v.k=6 then idOkB v.o v.a else false
def onlyV (v:V):V:=
 if v.k=1∨v.k=2∨v.k=4 then ⟨v.k,v.n,.empty,0,0⟩ else if v.k=3 then ⟨3,0,v.t,0,0⟩ else if v.k=5∨v.k=6 then ⟨v.k,0,.empty,v.o,v.a⟩ else ⟨v.k,0,.empty,0,0⟩
theorem isUsed_any (v:V) (w:World):
 Calls Tryz.prog 138 #[v.val] w fun e w'=>e=.returned (.bool (usedB v))∧Below w.heap.size w w':=by
 obtain⟨k,n,t,o,a⟩:=v;unfold V.val usedB;dsimp only;have B1:∀x,Below w.heap.size w (w.alloc x):=fun x=>bAl _ _;by_cases h0:k=0
 ·subst h0;go_enter Tryz.func138,Tryz.ntmps138
  go_wp2;go_ret;exact⟨by simp,B1 _⟩
 by_cases h2:k=2
 ·subst h2;go_enter Tryz.func138,Tryz.ntmps138
  go_wp2;go_ret;exact⟨by simp,B1 _⟩
 by_cases h4:k=4
 ·subst h4;go_enter Tryz.func138,Tryz.ntmps138
  go_wp2;go_ret;exact⟨by simp,B1 _⟩
 by_cases h1:k=1
 ·subst h1;by_cases n0:n=0
  ·subst n0;go_enter Tryz.func138,Tryz.ntmps138
   go_wp2;go_ret;exact⟨by simp,B1 _⟩
  by_cases n1:n=1
  ·subst n1;go_enter Tryz.func138,Tryz.ntmps138
   go_wp2;go_ret;exact⟨by simp,B1 _⟩
  ·go_enter Tryz.func138,Tryz.ntmps138
   go_wp2;go_ret;exact⟨by simp[n0,n1],B1 _⟩
 by_cases h3:k=3
 ·subst h3;go_enter Tryz.func138,Tryz.ntmps138
  go_wp2;go_ret;exact⟨by simp,B1 _⟩
 by_cases h56:k=5∨k=6
 ·have hc:Calls Tryz.prog 136 #[.agg #[.int .i64 o,.int .i64 a]] (w.alloc (.cells #[.int .i64 k,.int .i64 n,.string t,.int .i64 o,.int .i64 a] 59)) fun e w'=>(idOkB o a=true∧e=.returned .nilIface∨idOkB o a=false∧e=.returned (.iface 82 (.int .i64 1)))∧Below (w.heap.size+1) (w.alloc (.cells #[.int .i64 k,.int .i64 n,.string t,.int .i64 o,.int .i64 a] 59)) w':=by
   by_cases r:o=0∧a=0
   ·obtain⟨rfl,rfl⟩:=r;exact(check_root _).mono fun e w' ⟨h,b⟩=>⟨Or.inl ⟨(idOk_iff _ _).2 (Or.inl ⟨rfl,rfl⟩),h⟩,by simpa using b⟩
   ·by_cases R:Real o a
    ·exact(check_real o a _ R).mono fun e w' ⟨h,b⟩=>⟨Or.inl ⟨(idOk_iff _ _).2 (Or.inr R),h⟩,by simpa using b⟩
    ·exact(check_bad o a _ ⟨r,R⟩).mono fun e w' ⟨h,b⟩=>⟨Or.inr ⟨idOk_no _ _ (fun x=>x.elim r R),h⟩,by simpa using b⟩
  rcases h56 with h5 | h6
  ·subst h5;go_enter Tryz.func138,Tryz.ntmps138
   go_wp2_with fail;refine hc.mono ?_;rintro e w1 ⟨⟨hi,rfl⟩ | ⟨hi,rfl⟩,hb⟩
   ·go_wp2;go_ret;exact⟨by simp,(B1 _).trans (hb.mono (by omega))⟩
   ·go_wp2;go_ret;exact⟨by simp,(B1 _).trans (hb.mono (by omega))⟩
  ·subst h6;go_enter Tryz.func138,Tryz.ntmps138
   go_wp2_with fail;refine hc.mono ?_;rintro e w1 ⟨⟨hi,rfl⟩ | ⟨hi,rfl⟩,hb⟩
   ·go_wp2;go_ret;exact⟨by simp,(B1 _).trans (hb.mono (by omega))⟩
   ·go_wp2;go_ret;exact⟨by simp,(B1 _).trans (hb.mono (by omega))⟩
 ·have h5:¬k=5:=fun e=>h56 (Or.inl e);have h6:¬k=6:=fun e=>h56 (Or.inr e);clear h56;go_enter Tryz.func138,Tryz.ntmps138
  go_wp2;go_ret;exact⟨by simp,B1 _⟩
theorem onlyUsed_any (v:V) (w:World):
 Calls Tryz.prog 139 #[v.val] w fun e w'=>e=.returned (onlyV v).val∧Below w.heap.size w w':=by
 obtain⟨k,n,t,o,a⟩:=v;by_cases h1:k=1
 ·subst h1;have r:onlyV ⟨1,n,t,o,a⟩=⟨1,n,.empty,0,0⟩:=by simp[onlyV]
  rw[r];unfold V.val;dsimp only;clear r;go_enter Tryz.func139,Tryz.ntmps139
  go_wp2;go_returns;exact⟨rfl,by go_grown⟩
 by_cases h2:k=2
 ·subst h2;have r:onlyV ⟨2,n,t,o,a⟩=⟨2,n,.empty,0,0⟩:=by simp[onlyV]
  rw[r];unfold V.val;dsimp only;clear r;go_enter Tryz.func139,Tryz.ntmps139
  go_wp2;go_returns;exact⟨rfl,by go_grown⟩
 by_cases h4:k=4
 ·subst h4;have r:onlyV ⟨4,n,t,o,a⟩=⟨4,n,.empty,0,0⟩:=by simp[onlyV]
  rw[r];unfold V.val;dsimp only;clear r;go_enter Tryz.func139,Tryz.ntmps139
  go_wp2;go_returns;exact⟨rfl,by go_grown⟩
 by_cases h3:k=3
 ·subst h3;have r:onlyV ⟨3,n,t,o,a⟩=⟨3,0,t,0,0⟩:=by simp[onlyV]
  rw[r];unfold V.val;dsimp only;clear r;go_enter Tryz.func139,Tryz.ntmps139
  go_wp2;go_returns;exact⟨rfl,by go_grown⟩
 by_cases h5:k=5
 ·subst h5;have r:onlyV ⟨5,n,t,o,a⟩=⟨5,0,.empty,o,a⟩:=by simp[onlyV]
  rw[r];unfold V.val;dsimp only;clear r;go_enter Tryz.func139,Tryz.ntmps139
  go_wp2;go_returns;exact⟨rfl,by go_grown⟩
 by_cases h6:k=6
 ·subst h6;have r:onlyV ⟨6,n,t,o,a⟩=⟨6,0,.empty,o,a⟩:=by simp[onlyV]
  rw[r];unfold V.val;dsimp only;clear r;go_enter Tryz.func139,Tryz.ntmps139
  go_wp2;go_returns;exact⟨rfl,by go_grown⟩
 have r:onlyV ⟨k,n,t,o,a⟩=⟨k,0,.empty,0,0⟩:=by simp[onlyV,h1,h2,h3,h4,h5,h6]
 rw[r];unfold V.val;dsimp only;clear r;go_enter Tryz.func139,Tryz.ntmps139
 go_wp2;go_returns;exact⟨rfl,by go_grown⟩
def sameB (v u:V):Bool:=v.k==u.k&&(v.n==u.n&&(v.t.toList==u.t.toList&&(v.o==u.o&&v.a==u.a)))
theorem eqV (v u:V) (w:World):(Op.equalIn 10000 59 v.val u.val).run Tryz.prog w=.ok (sameB v u) w:=by
 obtain⟨k,n,t,o,a⟩:=v;obtain⟨k',n',t',o',a'⟩:=u;unfold V.val sameB;dsimp only;go_simp;by_cases h1:k=k' <;> by_cases h2:n=n' <;> by_cases h3:t.toList=t'.toList <;> by_cases h4:o=o' <;> by_cases h5:a=a' <;> simp[h1,h2,h3,h4,h5]
theorem checkV_used (v:V) (w:World) (hu:usedB v=true):
 Calls Tryz.prog 104 #[v.val] w fun e w'=>e=.returned (if sameB v (onlyV v)=true then .nilIface else .iface 82 (.int .i64 1))∧Below w.heap.size w w':=by
 have H1:=isUsed_any v;have H2:=onlyUsed_any v;rw[hu] at H1;have H3:=eqV v (onlyV v);generalize onlyV v=u at *;generalize sameB v u=q at *;obtain⟨k,n,t,o,a⟩:=v;obtain⟨k',n',t',o',a'⟩:=u;unfold V.val at *;dsimp only at *;go_enter Tryz.func104,Tryz.ntmps104
 go_wp2;go_region_held3 (fun W=>W.cell? ⟨w.heap.size,0,none⟩=some (.int .i64 k)∧W.cell? ⟨w.heap.size,1,none⟩=some (.int .i64 n)∧W.cell? ⟨w.heap.size,2,none⟩=some (.string t)∧W.cell? ⟨w.heap.size,3,none⟩=some (.int .i64 o)∧W.cell? ⟨w.heap.size,4,none⟩=some (.int .i64 a)) (first | go_keep | (refine⟨?_,?_,?_,?_,?_⟩ <;> (refine(hb1.cell ?_).trans ?_ <;> first | (simp;done) | (simp;omega))) | (refine⟨?_,?_,?_,?_,?_⟩ <;> (refine(hb2.cell ?_).trans ?_ <;> first | assumption | (simp;done) | (have hz:=hb1.size;simp at hz;simp;omega) | (refine(hb1.cell ?_).trans ?_ <;> first | (simp;done) | (simp;omega))))) (first
  | (go_at_call 138;refine(H1 _).mono ?_;rintro e w1 ⟨rfl,hb1⟩)
  | (go_at_call 139;refine(H2 _).mono ?_;rintro e w2 ⟨rfl,hb2⟩))
 have B2:Below w.heap.size w w2:=((bAl _ _).drew.trans (hb1.mono (by simp))).trans (hb2.mono (by have hz:=hb1.size;simp at hz;omega));clear hb1 hb2 H1 H2 H3;cases q with
 | true=>
  go_wp2;go_ret;exact⟨rfl,B2⟩
 | false=>
  go_wp2;go_ret;exact⟨rfl,B2⟩
theorem checkV_not (v:V) (w:World) (hu:usedB v=false):
 Calls Tryz.prog 104 #[v.val] w fun e w'=>e=.returned (.iface 82 (.int .i64 1))∧Below w.heap.size w w':=by
 have H1:=isUsed_any v;rw[hu] at H1;obtain⟨k,n,t,o,a⟩:=v;unfold V.val at *;dsimp only at *;go_enter Tryz.func104,Tryz.ntmps104
 go_wp2;go_region_with (go_at_call 138;refine(H1 _).mono ?_;rintro e w1 ⟨rfl,hb1⟩);all_goals
  go_wp2;go_ret;exact⟨rfl,(bAl _ _).drew.trans (hb1.mono (by simp))⟩
def okB (v:V):Bool:=usedB v&&sameB v (onlyV v)
theorem checkV_any (v:V) (w:World):
 Calls Tryz.prog 104 #[v.val] w fun e w'=>e=.returned (if okB v=true then .nilIface else .iface 82 (.int .i64 1))∧Below w.heap.size w w':=by
 cases hu:usedB v with
 | true=>
  refine(checkV_used v w hu).mono ?_;rintro e w' ⟨rfl,hb⟩;exact⟨by simp[okB,hu],hb⟩
 | false=>
  refine(checkV_not v w hu).mono ?_;rintro e w' ⟨rfl,hb⟩;exact⟨by simp[okB,hu],hb⟩
end Go.Proofs.YtamhlgflbacjgaaGreat
