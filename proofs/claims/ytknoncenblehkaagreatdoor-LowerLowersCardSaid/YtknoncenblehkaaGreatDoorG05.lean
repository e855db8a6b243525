/- A region that draws its order: reads and calls whose worlds -/
import Derived.Test.YtknoncenblehkaaGreatDoorG01
import Derived.Test.YtknoncenblehkaaGreatDoorRows
import Derived.StillTail
import Derived.Deep.Quiet
import Derived.Shelf.SlSortCmp.QuietGrown
import Derived.TacticsIn
import Derived.TacticsInMore
import Derived.OrdersIn
import Derived.RangeFuncCalls
import Derived.Sort.QuietThIn
import Derived.IntWalk
set_option maxRecDepth 100000
set_option maxHeartbeats 32000000
set_option linter.unusedSimpArgs false
set_option linter.unusedVariables false
namespace Go.Proofs.YtknoncenblehkaaGreatDoor
section
open Go Go.Sort
section
variable {P:Program} {ops:Array Oper} {md:Region.Mode} {C:World→Prop} {n:Nat} {L:Array Bool→Act→Prop}
def ZiE (P:Program) (md:Region.Mode) (ops:Array Oper) (C:World→Prop) (n:Nat) (L:Array Bool→Act→Prop):Nat→Array Bool→Act→Prop
 |0,done,a=>L done a
 |f+1,done,a=>Region.ready md ops done≠[]∧ ∀i∈Region.ready md ops done,i<n∧qOp P ops C i (ZiE P md ops C n L f (done.setIfInBounds i true)) a
theorem Zfs {g:Nat} {Q:Exit→Act→World→Prop} (hL: ∀done a w,C w→L done a→wpAny P md ops Q g done a w):
 ∀(f:Nat) (done:Array Bool) (a:Act) (w:World),C w→ZiE P md ops C n L f done a→wpAny P md ops Q (f+g) done a w
 |0,_,_,_,hw,h=>by rw[Nat.zero_add];exact hL _ _ _ hw h
 |f+1,_,_,_,hw,h=>by
  rw[Nat.add_right_comm];exact⟨fun e=>absurd e h.1,fun i hi=>wpOp_of_qOp hw (fun a' w' hw' h'=>Zfs hL f _ a' w' hw' h') (h.2 i hi).2⟩
structure TailAt (md:Region.Mode) (ops:Array Oper) (n:Nat) (L:Array Bool→Act→Prop):Prop where
 sink:Region.sinkB md ops n=true
 chain:Region.chainB md ops n=true
 lt:n<ops.size
 sel: ∀(j:Nat) (o:Oper) cs b,ops[j]? =some o→o.op≠.select cs b
 last: ∀done a,L done a→ ∀j∈Region.ready md ops done,n≤j
theorem Zgz (T:TailAt md ops n L) {i:Nat} {o:Oper} {v:Value} (hi:ops[i]? =some o) (hin:i<n): ∀(f:Nat) (done:Array Bool) (a:Act),HeadInv md ops n done→
 (∀j oj,ops[j]? =some oj→j≠i→done.getD j true=false→(∀e∈oj.after,Region.binds md e=true→e.on≠i)→o.apart ops oj=true)→
 i∈Region.ready md ops done→YieldsIn P ops C o v a→ZiE P md ops C n L f (done.setIfInBounds i true) (a.put o.dst v)→ZiE P md ops C n L (f+1) done a:=by
 intro f
 induction f with
 |zero=>
  intro done a inv _ hr hy H;refine⟨List.ne_nil_of_mem hr,fun j hj=>?_⟩;have hun:=(mem_ready.1 hr).1;have hjn:j<n:=Nat.lt_of_not_le fun h=>tail_waits T.sink T.chain T.lt inv _ i rfl hin hun j h hj;refine⟨hjn,?_⟩;by_cases e:j=i
  · rw[e];exact hy.qOp hi H
  · exact absurd (T.last _ _ H j (ready_mono hj e)) (Nat.not_le_of_lt hjn)
 |succ f ih=>
  intro done a inv hap hr hy H;refine⟨List.ne_nil_of_mem hr,fun j hj=>?_⟩;have hun:=(mem_ready.1 hr).1;have hjn:j<n:=Nat.lt_of_not_le fun h=>tail_waits T.sink T.chain T.lt inv _ i rfl hin hun j h hj;refine⟨hjn,?_⟩;by_cases e:j=i
  · rw[e];exact hy.qOp hi H
  · obtain⟨hj1,oj,hoj,hafter⟩:=mem_ready.1 hj
    have hno: ∀e'∈oj.after,Region.binds md e'=true→e'.on≠i:=by
     intro e' he' hb heq;have h1:=hafter e' he' hb;rw[heq,getD_both hun] at h1;exact Bool.noConfusion h1
    have key:=qOp_put hoj (hap j oj hoj e hj1 hno) (fun cs b=>T.sel i o cs b hi) (fun cs b=>T.sel j oj cs b hoj) hy (H.2 j (ready_mono hj e)).2;refine qOp_mono (fun a' ⟨hy',hH⟩=>?_) key;refine ih _ a' (inv.set hj hjn) (fun k ok hk hki hun' hno'=>?_) (ready_mono hr (Ne.symm e)) hy' (by rw[Array.setIfInBounds_comm _ _ e];exact hH);by_cases hjk:j=k
    · exact hap k ok hk hki (hjk▸hj1) hno'
    · exact hap k ok hk hki (by rwa [getD_set_ne true hjk] at hun') hno'
theorem Zdt {g:Nat} {Lq:Act→Prop} (T:TailAt md ops n (fun done a=>Region.seqB md ops g n done=true∧Lq a)):
 ∀(l:List Oper) (k:Nat) (done:Array Bool) (a:Act),(∀j,j<l.length→l[j]? =ops[k+j]?)→k+l.length=n→HeadInv md ops n done→Region.lexHead md ops g l.length k done=true→
 wpQuiet P ops C Lq l a→ZiE P md ops C n (fun done a=>Region.seqB md ops g n done=true∧Lq a) l.length done a
 |[],k,done,a,_,hk,_,hB,h=>by
  obtain rfl:k=n:=hk;exact⟨hB,h⟩
 |o::l,k,done,a,hl,hk,inv,hB,h=>by
  have h0:ops[k]? =some o:=(hl 0 (Nat.zero_lt_succ _)).symm;simp only[List.length_cons,Region.lexHead,Bool.and_eq_true] at hB hk
  have hkn:k<n:=by omega
  have hr:k∈Region.ready md ops done:=by simpa using hB.1.1
  have hq:qOp P ops C k (wpQuiet P ops C Lq l) a:=by unfold qOp;simp only[h0];exact h
  obtain⟨v,hy,hK⟩:=yieldsIn_of_qOp h0 hq;refine Zgz T h0 hkn l.length done a inv (Region.free_spec h0 hB.1.2) hr hy (Zdt T l (k+1) _ _ (fun j hj=>?_) (by omega) (inv.set hr hkn) hB.2 hK)
  have:=hl (j+1) (Nat.succ_lt_succ hj)
  rw[show k+1+j=k+(j+1) by omega, ← this];rfl
theorem Zaw {id:Nat} {Q:Exit→Act→World→Prop} {a:Act} {w:World} {l:List Oper} (n:Nat) (hm:P.follows .mixedOrders=true) (hB:Region.lexTailB .any l.toArray n=true) (hw:C {w with drawn:=w.drawn+1})
 (h:wpQuiet P l.toArray C (fun a'=> ∀w',C w'→wpList P l.toArray Q (l.drop n) a' w') (l.take n) a):(Code.region id l.toArray true).wp P Q a w:=by
 simp only[Region.lexTailB,Bool.and_eq_true,decide_eq_true_eq] at hB;obtain⟨⟨⟨⟨hsel,hn⟩,hs⟩,hc⟩,hlex⟩:=hB
 have hn':n<l.length:=by simpa using hn
 have htl:(l.take n).length=n:=by rw[List.length_take];omega
 have hdl:(l.drop n).length=l.toArray.size - n:=by simp
 have T:TailAt .any l.toArray n (fun done a'=>Region.seqB .any l.toArray (l.toArray.size - n) n done=true∧ ∀w',C w'→wpList P l.toArray Q (l.drop n) a' w'):=
  ⟨hs,hc,hn,Region.noSelect_spec hsel,fun _ _ hL=>seqB_ready hL.1⟩
 have H:=Zdt T (l.take n) 0 (Array.replicate l.toArray.size false) a (fun j hj=>by rw[htl] at hj;simp[hj]) (by rw[Nat.zero_add];exact htl)
  ⟨by simp,fun j oj _ hl=>(by rw[getD_replicate_false] at hl;cases hl),fun t _ ht=>getD_in (by simpa using ht) (getD_replicate_false _ _)⟩ (by rw[htl];exact hlex) h
 refine wp_region_any hm ?_
 have:=Zfs (Q:=Q) (g:=l.toArray.size - n) (fun done a' w' hw' hL=>by
  have:=wpAny_of_seq (md:=.any) (Q':=Q) (l.drop n) n done a' w' (fun j=>by simp[List.getElem?_drop]) (by rw[hdl];exact hL.1) (hL.2 w' hw')
  rwa [hdl] at this) _ _ _ _ hw H
 rw[htl,show n+(l.toArray.size - n)=l.toArray.size by omega] at this;exact this
theorem ZbR {id:Nat} {Q:Exit→Act→World→Prop} {a:Act} {w:World} {l:List Oper} (n:Nat) (hm:P.follows .mixedOrders=true) (hB:Region.lexTailB .any l.toArray n=true)
 (h:wpQuiet P l.toArray (fun w'=> ∃p:GrownBy,w'=grow (w.drewN p.n) p.os) (fun a'=> ∀w',(∃p:GrownBy,w'=grow (w.drewN p.n) p.os)→wpList P l.toArray Q (l.drop n) a' w') (l.take n) a):(Code.region id l.toArray true).wp P Q a w:=
 Zaw (C:=fun w'=> ∃p:GrownBy,w'=grow (w.drewN p.n) p.os) n hm hB ⟨⟨1,#[]⟩,by rw[grow_empty];rfl⟩ h
end
end
section
open Go Go.Sort
structure WideLike (F:Fence):Prop where
 fn: ∀f,F.fn f
 depth:F.depth=none
 calls: ∀{n:Nat} {P:Program} {f:FuncId} {args:Array Value} {w:World} {R:Ending→World→Prop},Calls P f args w R→CallsIn F n P f args w R
 sem: ∀(ρ:Operand→Value) (o:Oper),(∀c,o.op≠.defer c)→Oper.semAt F.round ρ o=execOp ρ o
theorem Zhy:WideLike Fence.wide:=⟨fun _=>trivial,rfl,fun h=>callsIn_wide.2 h,fun ρ o _=>Oper.semAt_none ρ o⟩
theorem Za5 (l:Nat):WideLike (Fence.wide.inRound l):=⟨fun _=>trivial,rfl,fun h=>CallsIn.inRound l (callsIn_wide.2 h),fun ρ o h=>Oper.semAt_some l ρ o h⟩
section
variable {F:Fence} {m:Nat} {P:Program} {ops:Array Oper} {md:Region.Mode} {C:World→Prop} {n:Nat} {L:Array Bool→Act→Prop} {Q:Exit→Act→World→Prop}
theorem Ze6 (W:WideLike F) {o:Oper} {a:Act} {K:Act→Prop} {K':Act→World→Prop} {w:World} (hnd: ∀c,o.op≠.defer c) (hw:C w) (h: ∀a w',C w'→K a→K' a w') (hh:o.quiet P a C K):o.wpIn F m P a w K' Q:=by
 obtain⟨v,h1,h2⟩:=hh;have h3:=h1 w hw;unfold Oper.quietAt at h3;refine⟨fun f _=>W.fn f,?_⟩;rw[W.sem _ _ hnd];generalize (execOp a.eval o).run P w=r at *
 rcases r with⟨x,w'⟩|⟨x,w'⟩
 · cases x
   case value u=>obtain⟨rfl,rfl⟩:=h3;exact h _ _ hw h2
   case skip=>obtain⟨rfl,rfl⟩:=h3;exact h _ _ hw h2
   case enter f args=>
    obtain⟨rfl,hc⟩:=h3;refine⟨fun hd=>(by rw[W.depth] at hd;cases hd),W.calls (hc.mono fun e w'' he=>?_)⟩;obtain⟨rfl,hw''⟩:=he;exact h _ _ hw'' h2
   all_goals exact h3.elim
 · exact h3.elim
theorem Zfb (W:WideLike F) (hnd: ∀(j:Nat) (o:Oper) c,ops[j]? =some o→o.op≠.defer c) {i:Nat} {a:Act} {K:Act→Prop} {K':Act→World→Prop} {w:World} (hC:C w) (h: ∀a w',C w'→K a→K' a w') (hh:qOp P ops C i K a):wpOpIn F m P ops Q i K' a w:=by
 unfold qOp at hh;unfold wpOpIn
 split
 · rename_i ho;simp only[ho] at hh;exact h _ _ hC hh
 · rename_i o ho
   simp only[ho] at hh
   split
   · rename_i hw;simp only[hw,if_true] at hh;exact Ze6 W (fun c=>hnd i o c ho) hC h hh
   · rename_i hw;simp only[hw] at hh;exact⟨fun f _=>W.fn f,h _ _ hC hh⟩
theorem Zdk (W:WideLike F) (hnd: ∀(j:Nat) (o:Oper) c,ops[j]? =some o→o.op≠.defer c) {g:Nat} (hL: ∀done a w,C w→L done a→wpAnyIn F m P md ops Q g done a w):
 ∀(f:Nat) (done:Array Bool) (a:Act) (w:World),C w→ZiE P md ops C n L f done a→wpAnyIn F m P md ops Q (f+g) done a w
 |0,_,_,_,hw,h=>by rw[Nat.zero_add];exact hL _ _ _ hw h
 |f+1,_,_,_,hw,h=>by
  rw[Nat.add_right_comm];exact⟨fun e=>absurd e h.1,fun i hi=>Zfb W hnd hw (fun a' w' hw' h'=>Zdk W hnd hL f _ a' w' hw' h') (h.2 i hi).2⟩
theorem ZfC: ∀(l:List Oper) (k:Nat) (done:Array Bool) (a:Act) (w:World),(∀j,l[j]? =ops[k+j]?)→Region.seqB md ops l.length k done=true→wpListIn F m P ops Q l a w→wpAnyIn F m P md ops Q l.length done a w
 |[],_,_,_,_,_,hB,h=>⟨by simpa[Region.seqB] using hB,h⟩
 |o::l,k,done,a,w,hl,hB,h=>by
  have h0:ops[k]? =some o:=by simpa using(hl 0).symm
  simp only[List.length_cons,Region.seqB,Bool.and_eq_true,decide_eq_true_eq] at hB;refine⟨fun e=>(by rw[hB.1] at e;cases e),fun i hi=>?_⟩;rw[hB.1] at hi
  obtain rfl:i=k:=by simpa using hi
  have hw:wpOpIn F m P ops Q i (wpListIn F m P ops Q l) a w:=by unfold wpOpIn;simp only[h0];exact h
  refine wpOpIn_mono (fun a' w' h'=>ZfC l (i+1) _ a' w' (fun j=>?_) hB.2 h') hw
  have:=hl (j+1)
  rw[show i+1+j=i+(j+1) by omega, ← this];rfl
theorem Zag (W:WideLike F) {id:Nat} {a:Act} {w:World} {l:List Oper} (n:Nat) (hm:P.follows .mixedOrders=true) (hB:Region.lexTailB .any l.toArray n=true)
 (hnd:(l.all fun o=>match o.op with|.defer _=>false|_=>true)=true) (hw:C {w with drawn:=w.drawn+1})
 (h:wpQuiet P l.toArray C (fun a'=> ∀w',C w'→wpListIn F m P l.toArray Q (l.drop n) a' w') (l.take n) a):(Code.region id l.toArray true).wpIn F m P Q a w:=by
 have hnd': ∀(j:Nat) (o:Oper) c,l.toArray[j]? =some o→o.op≠.defer c:=by
  intro j o c ho e
  have hmem:o∈l:=by
   rw[List.getElem?_toArray] at ho;exact Yn ho
  have:=List.all_eq_true.1 hnd o hmem
  rw[e] at this
  cases this
 simp only[Region.lexTailB,Bool.and_eq_true,decide_eq_true_eq] at hB;obtain⟨⟨⟨⟨hsel,hn⟩,hs⟩,hc⟩,hlex⟩:=hB
 have hn':n<l.length:=by simpa using hn
 have htl:(l.take n).length=n:=by rw[List.length_take];omega
 have hdl:(l.drop n).length=l.toArray.size - n:=by simp
 have T:TailAt .any l.toArray n (fun done a'=>Region.seqB .any l.toArray (l.toArray.size - n) n done=true∧ ∀w',C w'→wpListIn F m P l.toArray Q (l.drop n) a' w'):=
  ⟨hs,hc,hn,Region.noSelect_spec hsel,fun _ _ hL=>seqB_ready hL.1⟩
 have H:=Zdt T (l.take n) 0 (Array.replicate l.toArray.size false) a (fun j hj=>by rw[htl] at hj;simp[hj]) (by rw[Nat.zero_add];exact htl)
  ⟨by simp,fun j oj _ hl=>(by rw[getD_replicate_false] at hl;cases hl),fun t _ ht=>getD_in (by simpa using ht) (getD_replicate_false _ _)⟩ (by rw[htl];exact hlex) h
 refine wpIn_region_any hm ?_
 have:=Zdk (Q:=Q) (F:=F) (m:=m) (g:=l.toArray.size - n) W hnd' (fun done a' w' hw' hL=>by
  have:=ZfC (md:=.any) (Q:=Q) (F:=F) (m:=m) (l.drop n) n done a' w' (fun j=>by simp[List.getElem?_drop]) (by rw[hdl];exact hL.1) (hL.2 w' hw')
  rwa [hdl] at this) _ _ _ _ hw H
 rw[htl,show n+(l.toArray.size - n)=l.toArray.size by omega] at this;exact this
theorem ZA (W:WideLike F) {id:Nat} {a:Act} {w:World} {l:List Oper} (n:Nat) (hm:P.follows .mixedOrders=true) (hB:Region.lexTailB .any l.toArray n=true)
 (hnd:(l.all fun o=>match o.op with|.defer _=>false|_=>true)=true)
 (h:wpQuiet P l.toArray (fun w'=> ∃p:GrownBy,w'=grow (w.drewN p.n) p.os) (fun a'=> ∀w',(∃p:GrownBy,w'=grow (w.drewN p.n) p.os)→wpListIn F m P l.toArray Q (l.drop n) a' w') (l.take n) a):(Code.region id l.toArray true).wpIn F m P Q a w:=
 Zag (C:=fun w'=> ∃p:GrownBy,w'=grow (w.drewN p.n) p.os) W n hm hB hnd ⟨⟨1,#[]⟩,by rw[grow_empty];rfl⟩ h
end
end
section
open Go Go.Sort Go.RowKit
def wat (W:World) (n:Nat) (os:Array Obj):World:={W with heap:=W.heap++os,drawn:=n}
theorem ZaL (W:World) (n:Nat) (os:Array Obj):Only nob W (wat W n os):=
 ⟨rfl,rfl,rfl,by unfold wat;simp,fun k hk _=>Array.getElem?_append_left hk⟩
theorem ZmR {W w':World} (h:Only nob W w'): ∃p:GrownBy,w'=wat W p.n p.os:=by
 refine⟨⟨w'.drawn,w'.heap.extract W.heap.size w'.heap.size⟩,?_⟩
 have hh:w'.heap=W.heap++w'.heap.extract W.heap.size w'.heap.size:=by
  refine Array.ext_getElem? fun i=>?_;rcases Yp i W.heap.size with hi|hi
  · rw[Array.getElem?_append_left hi];exact h.block i hi id
  · rw[Array.getElem?_append_right hi,Array.getElem?_extract]
    rcases Yp i w'.heap.size with hj|hj
    · rw[if_pos (by have:=h.size;omega)]
      congr 1;omega
    · rw[if_neg (by have:=h.size;omega),Array.getElem?_eq_none hj]
 unfold wat;rw[← hh, ← h.os, ← h.tape, ← h.output]
theorem Zh {W:World} {p:Addr} {v:Value} (h:W.cell? p=some v) (n:Nat) (os:Array Obj):(wat W n os).cell? p=some v:=(ZaL W n os).keeps h
theorem Zq {P:Program} {f:FuncId} {args:Array Value} {W:World} {n:Nat} {os:Array Obj} {v:Value}
 (h:Calls P f args (wat W n os) fun e w'=>e=.returned v∧Only nob (wat W n os) w'):Calls P f args (wat W n os) fun e w''=>e=.returned v∧ ∃p:GrownBy,w''=wat W p.n p.os:=
 h.mono fun _ _ ⟨he,ho⟩=>⟨he,ZmR ((ZaL W n os).trans ho)⟩
theorem ZdB (w:World): ∃p:GrownBy,({w with drawn:=w.drawn+1}:World)=wat w p.n p.os:=ZmR (w':={w with drawn:=w.drawn+1}) ⟨rfl,rfl,rfl,Yi _,fun _ _ _=>rfl⟩
theorem Zt (W:World) (n:Nat) (os:Array Obj): ∃W3,wat W n os=W3∧Hid (Only nob W W3):=⟨_,rfl,ZaL W n os⟩
section
variable {P:Program} {id:Nat} {Q:Exit→Act→World→Prop} {a:Act} {w:World} {l:List Oper}
theorem Zm (hm:P.follows .mixedOrders=true) (hB:Region.lexB .any l.toArray=true)
 (h:wpQuiet P l.toArray (fun w'=> ∃p:GrownBy,w'=wat w p.n p.os) (fun a'=> ∀w',(∃p:GrownBy,w'=wat w p.n p.os)→Q .normal a' w') l a):(Code.region id l.toArray true).wp P Q a w:=
 wp_region_quiet (C:=fun w'=> ∃p:GrownBy,w'=wat w p.n p.os) hm hB (ZdB w) (by simpa using h)
theorem ZaH (n:Nat) (hm:P.follows .mixedOrders=true) (hB:Region.lexTailB .any l.toArray n=true)
 (h:wpQuiet P l.toArray (fun w'=> ∃p:GrownBy,w'=wat w p.n p.os) (fun a'=> ∀w',(∃p:GrownBy,w'=wat w p.n p.os)→wpList P l.toArray Q (l.drop n) a' w') (l.take n) a):(Code.region id l.toArray true).wp P Q a w:=
 Zaw (C:=fun w'=> ∃p:GrownBy,w'=wat w p.n p.os) n hm hB (ZdB w) h
theorem Zam {F:Fence} {m:Nat} (W:WideLike F) (n:Nat) (hm:P.follows .mixedOrders=true) (hB:Region.lexTailB .any l.toArray n=true)
 (hnd:(l.all fun o=>match o.op with|.defer _=>false|_=>true)=true)
 (h:wpQuiet P l.toArray (fun w'=> ∃p:GrownBy,w'=wat w p.n p.os) (fun a'=> ∀w',(∃p:GrownBy,w'=wat w p.n p.os)→wpListIn F m P l.toArray Q (l.drop n) a' w') (l.take n) a):(Code.region id l.toArray true).wpIn F m P Q a w:=
 Zag (C:=fun w'=> ∃p:GrownBy,w'=wat w p.n p.os) W n hm hB hnd (ZdB w) h
end
end
section
open Go.RowKit
def i64s (l:List Int):List Value:=l.map (Value.int .i64)
theorem Znd {l:List Int} {k:Nat} {z:Int} (h:l[k]? =some z):(i64s l)[k]? =some (.int .i64 z):=by simp[i64s,h]
theorem ZbM (l:List Int): ∀v∈i64s l,v.oneCell'=true:=by
 intro v hv;simp only[i64s,List.mem_map] at hv;obtain⟨x,_,rfl⟩:=hv;rfl
theorem Zcq:(Tryz.prog.info? 3).map (fun i=>(i.zero,i.size,i.bytes))=some (some (.int .i64 0),1,8):=by kernel_rfl
theorem ZcP {w w':World} {B:Nat} {A:Option Addr} {c k:Nat} {l:List Int} {z:Int} (h:Sl w B 1 (.slice A l.length c) l.length (i64s l)) (hb:Below B w w') (hz:l[k]? =some z):
 ∃b o,A=some ⟨b,o,none⟩∧b<B∧w'.cell? ⟨b,o+k,none⟩=some (.int .i64 z):=by
 have hk:k<l.length:=(Yj.1 hz).1;obtain⟨b,o,c',e,_,_,hlt,hc⟩:=(h.below hb).at_ (by omega)
 obtain⟨rfl,rfl⟩:A=some ⟨b,o,none⟩∧c=c':=by simpa using e
 exact⟨b,o,rfl,hlt,hc _ _ (Znd hz)⟩
theorem ZaG (l m:List Int):i64s (l++m)=i64s l++i64s m:=by simp[i64s]
section
variable {w W:World} {b:Nat} {t:TypeId}
theorem Zi {p:Addr} (o:Only nob w W) (hp:w.heap.size≤p.block) (u:Value):Only nob w (W.setCell p u):=o.setCell (fun h=>absurd h (Nat.not_lt_of_le hp)) u
theorem Zz {x0 x1 x2 x3 x4:Value} (h:Blk w b t #[x0,x1,x2,x3,x4]):w.cell? ⟨b,0,none⟩=some x0∧w.cell? ⟨b,1,none⟩=some x1∧w.cell? ⟨b,2,none⟩=some x2∧w.cell? ⟨b,3,none⟩=some x3∧w.cell? ⟨b,4,none⟩=some x4:=
 ⟨h.cell 0,h.cell 1,h.cell 2,h.cell 3,h.cell 4⟩
theorem ZcN {cs:Array Value} (h:Blk w b t cs):w.frozen? ⟨b,0,none⟩=false∧w.frozen? ⟨b,1,none⟩=false∧w.frozen? ⟨b,2,none⟩=false∧w.frozen? ⟨b,3,none⟩=false∧w.frozen? ⟨b,4,none⟩=false:=
 ⟨h.free 0,h.free 1,h.free 2,h.free 3,h.free 4⟩
theorem Zaq {x0 x1 x2 x3 x4 x5:Value} (h:Blk w b t #[x0,x1,x2,x3,x4,x5]):w.cell? ⟨b,0,none⟩=some x0∧w.cell? ⟨b,1,none⟩=some x1∧w.cell? ⟨b,2,none⟩=some x2∧w.cell? ⟨b,3,none⟩=some x3∧w.cell? ⟨b,4,none⟩=some x4∧w.cell? ⟨b,5,none⟩=some x5:=
 ⟨h.cell 0,h.cell 1,h.cell 2,h.cell 3,h.cell 4,h.cell 5⟩
theorem ZeG {cs:Array Value} (h:Blk w b t cs):w.frozen? ⟨b,0,none⟩=false∧w.frozen? ⟨b,1,none⟩=false∧w.frozen? ⟨b,2,none⟩=false∧w.frozen? ⟨b,3,none⟩=false∧w.frozen? ⟨b,4,none⟩=false∧w.frozen? ⟨b,5,none⟩=false:=
 ⟨h.free 0,h.free 1,h.free 2,h.free 3,h.free 4,h.free 5⟩
theorem Ze7 (o:Only nob w W) (hb:w.heap.size≤b) {z0 z1 z2 z3 z4:Value} (B:Blk W b t #[z0,z1,z2,z3,z4]) (x0 x1 x2 x3 x4:Value):
 ∃W4,(((((W.setCell ⟨b,0,none⟩ x0).setCell ⟨b,1,none⟩ x1).setCell ⟨b,2,none⟩ x2).setCell ⟨b,3,none⟩ x3).setCell ⟨b,4,none⟩ x4)=W4∧Only nob w W4∧Blk W4 b t #[x0,x1,x2,x3,x4]:=by
 refine⟨_,rfl,Zi (Zi (Zi (Zi (Zi o hb _) hb _) hb _) hb _) hb _,?_⟩;simpa using((((B.put 0 x0).put 1 x1).put 2 x2).put 3 x3).put 4 x4
theorem Zga (o:Only nob w W) (hb:w.heap.size≤b) {z0 z1 z2 z3 z4 z5:Value} (B:Blk W b t #[z0,z1,z2,z3,z4,z5]) (x0 x1 x2 x3 x4 x5:Value):
 ∃W4,((((((W.setCell ⟨b,0,none⟩ x0).setCell ⟨b,1,none⟩ x1).setCell ⟨b,2,none⟩ x2).setCell ⟨b,3,none⟩ x3).setCell ⟨b,4,none⟩ x4).setCell ⟨b,5,none⟩ x5)=W4∧Only nob w W4∧Blk W4 b t #[x0,x1,x2,x3,x4,x5]:=by
 refine⟨_,rfl,Zi (Zi (Zi (Zi (Zi (Zi o hb _) hb _) hb _) hb _) hb _) hb _,?_⟩;simpa using(((((B.put 0 x0).put 1 x1).put 2 x2).put 3 x3).put 4 x4).put 5 x5
theorem Zn9 {cs:Array Value} (o:Only nob w W) (hb:w.heap.size≤b) (B:Blk W b t cs) (i:Nat) (x:Value):
 ∃W4,W.setCell ⟨b,i,none⟩ x=W4∧Hid (Only nob w W4∧Blk W4 b t (cs.setIfInBounds i x)∧(∀g t' cs',g≠b→Blk W g t' cs'→Blk W4 g t' cs')∧ ∀p:Addr,p.block≠b→W4.cell? p=W.cell? p):=
 ⟨_,rfl,ZZ ⟨Zi o hb _,B.put i x,fun _ _ _ hg B'=>B'.other (fun e=>hg e.symm) x,fun p hp=>World.cell?_of_block (Below.heap_setCell W ⟨b,i,none⟩ x p.block hp)⟩⟩
end
end
end Go.Proofs.YtknoncenblehkaaGreatDoor
