/- The document's own answers for graphs: the same values, word A region that draws its order, whose last operation writes a The document's own plans in memory: a plan's state behind a -/
import Derived.OrdersHeld
import Derived.Test.YtknoncenblehkaaGreatDoorF24
set_option maxRecDepth 100000
set_option maxHeartbeats 32000000
set_option linter.unusedSimpArgs false
set_option linter.unusedVariables false
namespace Go.Proofs.YtknoncenblehkaaGreatDoor
section
open Go.RowKit
theorem ZgI:Tryz.prog.follows .mixedOrders=true:=by kernel_rfl
theorem Zj4 {α:Type} {l m:List α} (h:l.length≠m.length):l≠m:=fun e=>h (by rw[e])
theorem Zgo {α:Type} {l m:List α} {k:Nat} {x y:α} (hx:l[k]? =some x) (hy:m[k]? =some y) (h:x≠y):l≠m:=fun e=>h (by rw[e,hy] at hx;exact(Yp hx).symm)
theorem Zgg {α:Type} {l m:List α} (hl:l.length=m.length) (h: ∀(j:Nat) x,j<l.length→l[j]? =some x→m[j]? =some x):l=m:=by
 refine List.ext_getElem? fun j=>?_;rcases Yq j l.length with hj|hj
 · rw[h j _ hj (Ya hj)]
   exact Ya hj
 · rw[List.getElem?_eq_none hj,List.getElem?_eq_none (by omega)]
theorem Zhu {w w':World} {B:Nat} {A:Option Addr} {c k:Nat} {l:List Nat} {x:Nat} (h:Sl w B 1 (.slice A l.length c) l.length (u64s l)) (hb:Below B w w') (hx:l[k]? =some x):
 ∃b o,A=some ⟨b,o,none⟩∧b<B∧w'.cell? ⟨b,o+k,none⟩=some (.int .u64 (x:Nat)):=by
 have hk:k<l.length:=(Yk.1 hx).1;obtain⟨b,o,c',e,_,_,hlt,hc⟩:=(h.below hb).at_ (by omega)
 obtain⟨rfl,rfl⟩:A=some ⟨b,o,none⟩∧c=c':=by simpa using e
 refine⟨b,o,rfl,hlt,hc _ _ ?_⟩;simp[u64s,hx]
theorem ZmP (w:World) (vn vr:Value): ∃W,w.alloc (.cells #[vn,vr] 27)=W∧Hid (Only nob w W∧Blk W w.heap.size 27 #[vn,vr]∧W.cell? ⟨w.heap.size,0,none⟩=some vn∧W.cell? ⟨w.heap.size,1,none⟩=some vr):=
 ⟨_,rfl,ZZ ⟨(Only.refl nob w).alloc _,Blk.new _ _ _,(Blk.new w 27 #[vn,vr]).cell 0,(Blk.new w 27 #[vn,vr]).cell 1⟩⟩
theorem Zax (w:World) (k:Int) (fv rv:Value): ∃W,w.alloc (.cells #[.int .i64 k,fv,rv] 56)=W∧Hid (Only nob w W∧Blk W w.heap.size 56 #[.int .i64 k,fv,rv]∧W.cell? ⟨w.heap.size,0,none⟩=some (.int .i64 k)∧W.cell? ⟨w.heap.size,1,none⟩=some fv∧W.cell? ⟨w.heap.size,2,none⟩=some rv):=by
 have h:=Blk.new w 56 #[.int .i64 k,fv,rv];exact⟨_,rfl,ZZ ⟨(Only.refl nob w).alloc _,h,h.cell 0,h.cell 1,h.cell 2⟩⟩
theorem Zlf (n:Nat) (d:Nd):(d.kd<0∧Zio n d=false)∨(0≤d.kd∧31<d.kd∧Zio n d=false)∨(0≤d.kd∧d.kd≤31∧4096<(d.fs.length:Int)∧Zio n d=false)∨(0≤d.kd∧d.kd≤31∧(d.fs.length:Int)≤4096∧4096<(d.rs.length:Int)∧Zio n d=false)∨(0≤d.kd∧d.kd≤31∧(d.fs.length:Int)≤4096∧(d.rs.length:Int)≤4096∧Zio n d=d.fs.all (vOk n)):=by
 unfold Zio;by_cases h1:d.kd<0
 · exact .inl ⟨h1,by rw[Yl (by omega)];rfl⟩
 by_cases h2:31<d.kd
 · exact .inr (.inl ⟨by omega,h2,by rw[Yl (by omega)];rfl⟩)
 by_cases h3:4096<(d.fs.length:Int)
 · exact .inr (.inr (.inl ⟨by omega,by omega,h3,by rw[Yl (p:=d.fs.length≤4096) (by omega)];simp⟩))
 by_cases h4:4096<(d.rs.length:Int)
 · exact .inr (.inr (.inr (.inl ⟨by omega,by omega,by omega,h4,by rw[Yl (p:=d.rs.length≤4096) (by omega)];simp⟩)))
 · exact .inr (.inr (.inr (.inr ⟨by omega,by omega,by omega,by omega,by rw[Ym (p:=0≤d.kd∧d.kd≤31) (by omega),Ym (p:=d.fs.length≤4096) (by omega),Ym (p:=d.rs.length≤4096) (by omega)];simp⟩)))
end
section
open Go.RowKit Go.Lib
theorem Zdp:(Tryz.prog.info? 59).map (fun i=>(i.zero,i.size,i.bytes))=some (some (.agg #[.int .i64 0,.int .i64 0]),2,16):=by kernel_rfl
theorem Zmw (l:List Sp): ∀v∈spc l,v.oneCell'=true:=by
 induction l with
 |nil=>intro v hv;cases hv
 |cons x l ih=>
  intro v hv;simp only[spc,List.flatMap_cons,Yr] at hv;rcases hv with hv|hv
  · simp at hv
    rcases hv with rfl|rfl <;> rfl
  · exact ih v hv
theorem Zbd (w:World) (k x:Int): ∃W,w.alloc (.cells #[.int .i64 k,.int .i64 x] 59)=W∧Hid (Only nob w W∧Blk W w.heap.size 59 #[.int .i64 k,.int .i64 x]):=
 ⟨_,rfl,ZZ ⟨(Only.refl nob w).alloc _,Blk.new w _ _⟩⟩
theorem ZmD (w:World) (x:Int):Sl (w.alloc (.cells #[.int .i64 x] 3)) (w.heap.size+1) 1 (.slice (some ⟨w.heap.size,0,none⟩) 1 1) 1 (i64s [x]):=by
 have:=Sl.of_blk (size:=1) (n:=1) (c:=1) (Blk.new w 3 #[.int .i64 x]) (by simp) (Yj _) (by decide)
 simpa[i64s] using this
end
section
open Go
section
variable {P:Program} {ops:Array Oper} {Q:Exit→Act→World→Prop} {md:Region.Mode} {S:World→Prop} {stop:Nat}
def Zhe (P:Program) (md:Region.Mode) (ops:Array Oper) (Q:Exit→Act→World→Prop) (S:World→Prop) (stop:Nat):Nat→Array Bool→Act→World→Prop
 |0,d,a,w=>Region.ready md ops d=[]∧Q .normal a w
 |f+1,d,a,w=>(Region.ready md ops d=[]→Q .normal a w)∧ ∀i∈Region.ready md ops d,wpOp P ops Q i (fun a' w'=>(i≠stop→S w')∧Zhe P md ops Q S stop f (d.setIfInBounds i true) a' w') a w
theorem Zhe.any: ∀(f:Nat) (d:Array Bool) (a:Act) (w:World),Zhe P md ops Q S stop f d a w→wpAny P md ops Q f d a w
 |0,_,_,_,h=>h
 |f+1,_,_,_,h=>⟨h.1,fun i hi=>wpOp_mono (fun a' w' h'=>Zhe.any f _ a' w' h'.2) (h.2 i hi)⟩
def ZjR (md:Region.Mode) (ops:Array Oper) (stop i:Nat):Bool:=match ops[stop]? with
 |some o=>o.after.any fun e=>Region.binds md e&&e.on==i
 |none=>false
theorem ZqB {d:Array Bool} {i:Nat} (h:ZjR md ops stop i=true) (hi:i∈Region.ready md ops d) (hs:stop∈Region.ready md ops d):False:=by
 obtain⟨h1,o,ho,ha⟩:=mem_ready.1 hs;unfold ZjR at h;simp only[ho] at h;obtain⟨j,hj,hje⟩:=Array.any_eq_true.1 h;rw[Bool.and_eq_true] at hje;have h2:=ha _ (Array.getElem_mem hj) hje.1
 have e:(o.after[j]).on=i:=by simpa using hje.2
 rw[e] at h2;have h3:=(mem_ready.1 hi).1;rcases Yq i d.size with h'|h'
 · simp[h'] at h2 h3;rw[h3] at h2;cases h2
 · simp[Array.getElem?_eq_none h'] at h2
theorem Zhe.first {i:Nat} {oi:Oper} {v:Value} (hi:ops[i]? =some oi) (hsel: ∀(j:Nat) (o:Oper) cs b,ops[j]? =some o→o.op≠.select cs b) (hQ: ∀c a w,Q (.panic c) (a.put oi.dst v) w→Q (.panic c) a w) (hst:ZjR md ops stop i=true):
 ∀(f:Nat) (d:Array Bool) (a:Act) (w:World),(∀j oj,ops[j]? =some oj→j≠i→d.getD j true=false→(∀e∈oj.after,Region.binds md e=true→e.on≠i)→oi.apart ops oj=true)→
  i∈Region.ready md ops d→YieldsIf P ops S oi v a→S w→Zhe P md ops Q S stop f (d.setIfInBounds i true) (a.put oi.dst v) w→Zhe P md ops Q S stop (f+1) d a w:=by
 intro f
 induction f with
 |zero=>
  intro d a w _ hr hy hS H;refine⟨fun h=>(by rw[h] at hr;cases hr),fun j hj=>?_⟩;by_cases e:j=i
  · rw[e];exact hy.wpOp hi hS ⟨fun _=>hS,H⟩
  · have:=ready_mono hj e
    rw[H.1] at this
    cases this
 |succ f ih=>
  intro d a w hap hr hy hS H;refine⟨fun h=>(by rw[h] at hr;cases hr),fun j hj=>?_⟩;by_cases e:j=i
  · rw[e];exact hy.wpOp hi hS ⟨fun _=>hS,H⟩
  · have hjs:j≠stop:=fun h=>ZqB hst hr (h▸hj)
    obtain⟨hj1,oj,hoj,hafter⟩:=mem_ready.1 hj
    have hno: ∀x∈oj.after,Region.binds md x=true→x.on≠i:=fun x hx hb heq=>by
     have h2:=hafter x hx hb;rw[heq] at h2;have h3:=(mem_ready.1 hr).1;rcases Yq i d.size with h'|h'
     · simp[h'] at h2 h3;rw[h3] at h2;cases h2
     · simp[Array.getElem?_eq_none h'] at h2
    have key:=wpOp_putIf hoj (hap j oj hoj e hj1 hno) (fun cs b=>hsel i oi cs b hi) (fun cs b=>hsel j oj cs b hoj) hQ hy (H.2 j (ready_mono hj e));refine wpOp_mono (fun a' w' h3=>⟨fun _=>h3.2.1 hjs,ih _ a' w' (fun k ok hk hki hun hno'=>?_) (ready_mono hr (Ne.symm e)) h3.1 (h3.2.1 hjs) (by rw[Array.setIfInBounds_comm _ _ e];exact h3.2.2)⟩) key;by_cases hjk:j=k
    · exact hap k ok hk hki (hjk▸hj1) hno'
    · exact hap k ok hk hki (by rwa [getD_set_ne true hjk] at hun) hno'
theorem Zs {i:Nat} {oi:Oper} {v:Value} {f:Nat} {d:Array Bool} {a:Act} {w:World} (hi:ops[i]? =some oi) (hs:Region.noSelect ops=true) (hf:Region.free md ops d i=true) (hr:(Region.ready md ops d).contains i=true) (hst:ZjR md ops stop i=true)
 (hQ: ∀c a w,Q (.panic c) (a.put oi.dst v) w→Q (.panic c) a w) (hy:YieldsIf P ops S oi v a) (hS:S w) (h:Zhe P md ops Q S stop f (d.setIfInBounds i true) (a.put oi.dst v) w):Zhe P md ops Q S stop (f+1) d a w:=
 Zhe.first hi (Region.noSelect_spec hs) hQ hst f d a w (Region.free_spec hi hf) (by simpa using hr) hy hS h
def ZcN (P:Program) (md:Region.Mode) (ops:Array Oper) (Q:Exit→Act→World→Prop) (S:World→Prop) (stop f:Nat) (d:Array Bool) (a:Act) (w:World) (rs:List Nat):Prop:=
 ∀i∈rs,wpOp P ops Q i (fun a' w'=>(i≠stop→S w')∧Zhe P md ops Q S stop f (d.setIfInBounds i true) a' w') a w
theorem ZcN.nil {f:Nat} {d:Array Bool} {a:Act} {w:World}:ZcN P md ops Q S stop f d a w []:=fun _ h=>by cases h
theorem ZcN.cons {f:Nat} {d:Array Bool} {a:Act} {w:World} {i:Nat} {o:Oper} {rs:List Nat} (ho:ops[i]? =some o)
 (h: ∀K':Act→World→Prop,Shut (∀a w,(i≠stop→S w)→((i≠stop→S w)→Zhe P md ops Q S stop f (d.setIfInBounds i true) a w)→K' a w)→if Region.wanted o (yielded ops a.tmps)=true then Oper.wp P o a w K' Q else K' (a.put o.dst undef) w)
 (hs:ZcN P md ops Q S stop f d a w rs):ZcN P md ops Q S stop f d a w (i::rs):=fun j hj=>by
 rcases List.mem_cons.1 hj with rfl|hj
 · exact wpOp_step ho fun K' hK=>h K' (fun a w hS hW=>hK a w ⟨hS,hW hS⟩)
 · exact hs j hj
theorem ZD {rs:List Nat} {f:Nat} {d:Array Bool} {a:Act} {w:World} (hr:Region.ready md ops d=rs) (hne:rs≠[]) (h:ZcN P md ops Q S stop f d a w rs):Zhe P md ops Q S stop (f+1) d a w:=
 ⟨fun h0=>absurd (hr▸h0) hne,hr▸h⟩
theorem ZeJ {d:Array Bool} {a:Act} {w:World} (hr:Region.ready md ops d=[]) (h:Q .normal a w): ∀f,Zhe P md ops Q S stop f d a w
 |0=>⟨hr,h⟩
 |_+1=>⟨fun _=>h,by rw[hr];simp⟩
theorem Zdy {id:Nat} {a:Act} {w:World} (hm:P.follows .mixedOrders=true) (hS:S w.drew) (h:S w.drew→Zhe P .any ops Q S stop ops.size (Array.replicate ops.size false) a w.drew):(Code.region id ops true).wp P Q a w:=
 wp_region_any hm (Zhe.any _ _ _ _ (h hS))
end
end
section
open Go
theorem ZiB {m:Nat} {P:Program} {row:String} {args:Array Value} {w:World} {R:Value→World→Prop} (h:Rows P row args w R):RowsIn Fence.wide m P row args w R:=
 fun c cs _=>let ⟨v,w',r,s⟩:=h c cs;⟨v,w',r,stepsIn_wide.2 s⟩
theorem Ziz {m:Nat} {P:Program} {o:Oper} {a:Act} {w:World} {K:Act→World→Prop} {Q:Exit→Act→World→Prop} (h:o.wp P a w K Q):o.wpIn Fence.wide m P a w K Q:=by
 unfold Oper.wpIn;refine⟨fun _ _=>trivial,?_⟩;rw[show Fence.wide.round=none from rfl,Oper.semAt_none];unfold Oper.wp at h;generalize (execOp a.eval o).run P w=r at *
 rcases r with⟨x,w'⟩|⟨x,w'⟩
 · cases x
   case enter f args=>exact⟨fun hd=>(by cases hd),callsIn_wide.2 h⟩
   case row row args=>exact⟨fun hd=>(by cases hd),ZiB h⟩
   all_goals first|exact h|exact h.elim
 · cases x <;> first|exact h|exact h.elim
theorem Zcd {m:Nat} {P:Program} {md:Region.Mode} {ops:Array Oper} {Q:Exit→Act→World→Prop} (hlo: ¬LetsOut Q):
 ∀(f:Nat) (d:Array Bool) (a:Act) (w:World),wpAny P md ops Q f d a w→wpAnyIn Fence.wide m P md ops Q f d a w
 |0,_,_,_,h=>h
 |f+1,d,a,w,h=>by
  refine⟨h.1,fun i hi=>?_⟩;have h2:=h.2 i hi;unfold wpOp at h2;unfold wpOpIn
  cases ho:ops[i]? with
  |none=>
   simp only[ho] at h2 ⊢;exact Zcd hlo f _ _ _ h2
  |some o=>
   simp only[ho] at h2 ⊢
   split
   · rename_i hw
     simp only[hw,if_true] at h2;rcases h2 with h2|h2
     · exact Ziz (Oper.wp_mono (fun a' w' h'=>Zcd hlo f _ a' w' h') h2)
     · exact absurd h2.2 hlo
   · rename_i hw
     simp only[hw] at h2;exact⟨fun _ _=>trivial,Zcd hlo f _ _ _ h2⟩
theorem Zh8 {m lp:Nat} {P:Program} {o:Oper} {a:Act} {w:World} {K:Act→World→Prop} {Q:Exit→Act→World→Prop} (hnd: ∀c,o.op≠.defer c) (h:o.wpIn Fence.wide m P a w K Q):o.wpIn (Fence.wide.inRound lp) m P a w K Q:=by
 unfold Oper.wpIn at *;refine⟨fun _ _=>trivial,?_⟩;have h:=h.2;rw[show(Fence.wide.inRound lp).round=some lp from rfl,Oper.semAt_some lp _ o hnd];rw[show Fence.wide.round=none from rfl,Oper.semAt_none] at h;generalize (execOp a.eval o).run P w=r at *
 cases r with
 |ok x w'=>cases x <;> exact h
 |halt x w'=>cases x <;> exact h
theorem Zbq {m lp:Nat} {P:Program} {md:Region.Mode} {ops:Array Oper} {Q:Exit→Act→World→Prop} (hnd: ∀(j:Nat) (o:Oper) c,ops[j]? =some o→o.op≠.defer c):
 ∀(f:Nat) (done:Array Bool) (a:Act) (w:World),wpAnyIn Fence.wide m P md ops Q f done a w→wpAnyIn (Fence.wide.inRound lp) m P md ops Q f done a w
 |0,_,_,_,h=>h
 |f+1,done,a,w,h=>by
  refine⟨h.1,fun i hi=>?_⟩;have h2:=h.2 i hi;unfold wpOpIn at *
  cases ho:ops[i]? with
  |none=>
   simp only[ho] at h2 ⊢;exact Zbq hnd f _ _ _ h2
  |some o=>
   simp only[ho] at h2 ⊢
   split
   · rename_i hw
     simp only[hw,if_true] at h2;exact Zh8 (fun c=>hnd i o c ho) (Oper.wpIn_mono (fun a' w' h'=>Zbq hnd f _ a' w' h') h2)
   · rename_i hw
     simp only[hw] at h2;exact⟨fun _ _=>trivial,Zbq hnd f _ _ _ h2.2⟩
theorem ZiM {m lp id stop:Nat} {P:Program} {l:List Oper} {Q:Exit→Act→World→Prop} {S:World→Prop} {a:Act} {w:World} (hm:P.follows .mixedOrders=true) (hnd:(l.all fun o=>match o.op with|.defer _=>false|_=>true)=true) (hlo: ¬LetsOut Q) (hS:S w.drew)
 (h:S w.drew→Zhe P .any l.toArray Q S stop l.toArray.size (Array.replicate l.toArray.size false) a w.drew):(Code.region id l.toArray true).wpIn (Fence.wide.inRound lp) m P Q a w:=by
 refine wpIn_region_any hm (Zbq (fun j o c ho e=>?_) _ _ _ _ (Zcd hlo _ _ _ _ (Zhe.any _ _ _ _ (h hS))))
 have hmem:o∈l:=by
  rw[List.getElem?_toArray] at ho;exact Yo ho
 have:=List.all_eq_true.1 hnd o hmem
 rw[e] at this
 cases this
end
section
open Go.RowKit Go.Lib
section
end
end
section
open Go.RowKit Go.Lib
end
section
open Go.RowKit
structure Bg (s:PSt):Prop where
 bs: ∀b∈s.begins,0≤b∧b≤s.top
 tn:0≤s.top∧s.top≤8193 * (s.small.length:Int)
theorem Bg.off {s:PSt} (h:Bg s):Bg {s with pile:=s.pile.dropLast}:=⟨h.bs,h.tn⟩
end
section
open Go.RowKit Go.Lib
end
end Go.Proofs.YtknoncenblehkaaGreatDoor
