/- The document's own answers for graphs: the same values, word A region that draws its order, whose last operation writes a -/
import Derived.Test.YtknoncenblehkaaGreatDoorE24
import Derived.OrdersHeld
set_option maxRecDepth 100000
set_option maxHeartbeats 32000000
set_option linter.unusedSimpArgs false
set_option linter.unusedVariables false
namespace Go.Proofs.YtknoncenblehkaaGreatDoor
section
open Go.RowKit
theorem Zka:Tryz.prog.follows .mixedOrders=true:=by kernel_rfl
theorem Zj2 (w:World) (vn vr:Value): ∃W,w.alloc (.cells #[vn,vr] 27)=W∧Hid (Only nob w W∧Blk W w.heap.size 27 #[vn,vr]∧W.cell? ⟨w.heap.size,0,none⟩=some vn∧W.cell? ⟨w.heap.size,1,none⟩=some vr):=
 ⟨_,rfl,ZZ ⟨(Only.refl nob w).alloc _,Blk.new _ _ _,(Blk.new w 27 #[vn,vr]).cell 0,(Blk.new w 27 #[vn,vr]).cell 1⟩⟩
theorem ZaS (w:World) (k:Int) (fv rv:Value): ∃W,w.alloc (.cells #[.int .i64 k,fv,rv] 56)=W∧Hid (Only nob w W∧Blk W w.heap.size 56 #[.int .i64 k,fv,rv]∧W.cell? ⟨w.heap.size,0,none⟩=some (.int .i64 k)∧W.cell? ⟨w.heap.size,1,none⟩=some fv∧W.cell? ⟨w.heap.size,2,none⟩=some rv):=by
 have h:=Blk.new w 56 #[.int .i64 k,fv,rv];exact⟨_,rfl,ZZ ⟨(Only.refl nob w).alloc _,h,h.cell 0,h.cell 1,h.cell 2⟩⟩
theorem Zjy (n:Nat) (d:Nd):(d.kd<0∧Zgs n d=false)∨(0≤d.kd∧31<d.kd∧Zgs n d=false)∨(0≤d.kd∧d.kd≤31∧4096<(d.fs.length:Int)∧Zgs n d=false)∨(0≤d.kd∧d.kd≤31∧(d.fs.length:Int)≤4096∧4096<(d.rs.length:Int)∧Zgs n d=false)∨(0≤d.kd∧d.kd≤31∧(d.fs.length:Int)≤4096∧(d.rs.length:Int)≤4096∧Zgs n d=d.fs.all (vOk n)):=by
 unfold Zgs;by_cases h1:d.kd<0
 · exact .inl ⟨h1,by rw[Yl (by omega)];rfl⟩
 by_cases h2:31<d.kd
 · exact .inr (.inl ⟨by omega,h2,by rw[Yl (by omega)];rfl⟩)
 by_cases h3:4096<(d.fs.length:Int)
 · exact .inr (.inr (.inl ⟨by omega,by omega,h3,by rw[Yl (p:=d.fs.length≤4096) (by omega)];simp⟩))
 by_cases h4:4096<(d.rs.length:Int)
 · exact .inr (.inr (.inr (.inl ⟨by omega,by omega,by omega,h4,by rw[Yl (p:=d.rs.length≤4096) (by omega)];simp⟩)))
 · exact .inr (.inr (.inr (.inr ⟨by omega,by omega,by omega,by omega,by rw[Ym (p:=0≤d.kd∧d.kd≤31) (by omega),Ym (p:=d.fs.length≤4096) (by omega),Ym (p:=d.rs.length≤4096) (by omega)];simp⟩)))
end
section
open Go.RowKit Go.Lib
theorem Zeo:(Tryz.prog.info? 59).map (fun i=>(i.zero,i.size,i.bytes))=some (some (.agg #[.int .i64 0,.int .i64 0]),2,16):=by kernel_rfl
theorem ZaJ (w:World) (k x:Int): ∃W,w.alloc (.cells #[.int .i64 k,.int .i64 x] 59)=W∧Hid (Only nob w W∧Blk W w.heap.size 59 #[.int .i64 k,.int .i64 x]):=
 ⟨_,rfl,ZZ ⟨(Only.refl nob w).alloc _,Blk.new w _ _⟩⟩
end
section
open Go
section
variable {P:Program} {ops:Array Oper} {Q:Exit→Act→World→Prop} {md:Region.Mode} {S:World→Prop} {stop:Nat}
def Zgt (P:Program) (md:Region.Mode) (ops:Array Oper) (Q:Exit→Act→World→Prop) (S:World→Prop) (stop:Nat):Nat→Array Bool→Act→World→Prop
 |0,d,a,w=>Region.ready md ops d=[]∧Q .normal a w
 |f+1,d,a,w=>(Region.ready md ops d=[]→Q .normal a w)∧ ∀i∈Region.ready md ops d,wpOp P ops Q i (fun a' w'=>(i≠stop→S w')∧Zgt P md ops Q S stop f (d.setIfInBounds i true) a' w') a w
theorem Zgt.any: ∀(f:Nat) (d:Array Bool) (a:Act) (w:World),Zgt P md ops Q S stop f d a w→wpAny P md ops Q f d a w
 |0,_,_,_,h=>h
 |f+1,_,_,_,h=>⟨h.1,fun i hi=>wpOp_mono (fun a' w' h'=>Zgt.any f _ a' w' h'.2) (h.2 i hi)⟩
def Zh1 (md:Region.Mode) (ops:Array Oper) (stop i:Nat):Bool:=match ops[stop]? with
 |some o=>o.after.any fun e=>Region.binds md e&&e.on==i
 |none=>false
theorem Zmd {d:Array Bool} {i:Nat} (h:Zh1 md ops stop i=true) (hi:i∈Region.ready md ops d) (hs:stop∈Region.ready md ops d):False:=by
 obtain⟨h1,o,ho,ha⟩:=mem_ready.1 hs;unfold Zh1 at h;simp only[ho] at h;obtain⟨j,hj,hje⟩:=Array.any_eq_true.1 h;rw[Bool.and_eq_true] at hje;have h2:=ha _ (Array.getElem_mem hj) hje.1
 have e:(o.after[j]).on=i:=by simpa using hje.2
 rw[e] at h2;have h3:=(mem_ready.1 hi).1;rcases Yq i d.size with h'|h'
 · simp[h'] at h2 h3;rw[h3] at h2;cases h2
 · simp[Array.getElem?_eq_none h'] at h2
theorem Zgt.first {i:Nat} {oi:Oper} {v:Value} (hi:ops[i]? =some oi) (hsel: ∀(j:Nat) (o:Oper) cs b,ops[j]? =some o→o.op≠.select cs b) (hQ: ∀c a w,Q (.panic c) (a.put oi.dst v) w→Q (.panic c) a w) (hst:Zh1 md ops stop i=true):
 ∀(f:Nat) (d:Array Bool) (a:Act) (w:World),(∀j oj,ops[j]? =some oj→j≠i→d.getD j true=false→(∀e∈oj.after,Region.binds md e=true→e.on≠i)→oi.apart ops oj=true)→
  i∈Region.ready md ops d→YieldsIf P ops S oi v a→S w→Zgt P md ops Q S stop f (d.setIfInBounds i true) (a.put oi.dst v) w→Zgt P md ops Q S stop (f+1) d a w:=by
 intro f
 induction f with
 |zero=>
  intro d a w _ hr hy hS H;refine⟨fun h=>(by rw[h] at hr;cases hr),fun j hj=>?_⟩;by_cases e:j=i
  · rw[e];exact hy.wpOp hi hS ⟨fun _=>hS,H⟩
  · have:=ready_mono hj e
    rw[H.1] at this
    cases this
 |succ f ih=>
  intro d a w hap hr hy hS H;refine⟨fun h=>(by rw[h] at hr;cases hr),fun j hj=>?_⟩;by_cases e:j=i
  · rw[e];exact hy.wpOp hi hS ⟨fun _=>hS,H⟩
  · have hjs:j≠stop:=fun h=>Zmd hst hr (h▸hj)
    obtain⟨hj1,oj,hoj,hafter⟩:=mem_ready.1 hj
    have hno: ∀x∈oj.after,Region.binds md x=true→x.on≠i:=fun x hx hb heq=>by
     have h2:=hafter x hx hb;rw[heq] at h2;have h3:=(mem_ready.1 hr).1;rcases Yq i d.size with h'|h'
     · simp[h'] at h2 h3;rw[h3] at h2;cases h2
     · simp[Array.getElem?_eq_none h'] at h2
    have key:=wpOp_putIf hoj (hap j oj hoj e hj1 hno) (fun cs b=>hsel i oi cs b hi) (fun cs b=>hsel j oj cs b hoj) hQ hy (H.2 j (ready_mono hj e));refine wpOp_mono (fun a' w' h3=>⟨fun _=>h3.2.1 hjs,ih _ a' w' (fun k ok hk hki hun hno'=>?_) (ready_mono hr (Ne.symm e)) h3.1 (h3.2.1 hjs) (by rw[Array.setIfInBounds_comm _ _ e];exact h3.2.2)⟩) key;by_cases hjk:j=k
    · exact hap k ok hk hki (hjk▸hj1) hno'
    · exact hap k ok hk hki (by rwa [getD_set_ne true hjk] at hun) hno'
theorem ZaI {i:Nat} {oi:Oper} {v:Value} {f:Nat} {d:Array Bool} {a:Act} {w:World} (hi:ops[i]? =some oi) (hs:Region.noSelect ops=true) (hf:Region.free md ops d i=true) (hr:(Region.ready md ops d).contains i=true) (hst:Zh1 md ops stop i=true)
 (hQ: ∀c a w,Q (.panic c) (a.put oi.dst v) w→Q (.panic c) a w) (hy:YieldsIf P ops S oi v a) (hS:S w) (h:Zgt P md ops Q S stop f (d.setIfInBounds i true) (a.put oi.dst v) w):Zgt P md ops Q S stop (f+1) d a w:=
 Zgt.first hi (Region.noSelect_spec hs) hQ hst f d a w (Region.free_spec hi hf) (by simpa using hr) hy hS h
def ZhA (P:Program) (md:Region.Mode) (ops:Array Oper) (Q:Exit→Act→World→Prop) (S:World→Prop) (stop f:Nat) (d:Array Bool) (a:Act) (w:World) (rs:List Nat):Prop:=
 ∀i∈rs,wpOp P ops Q i (fun a' w'=>(i≠stop→S w')∧Zgt P md ops Q S stop f (d.setIfInBounds i true) a' w') a w
theorem ZhA.nil {f:Nat} {d:Array Bool} {a:Act} {w:World}:ZhA P md ops Q S stop f d a w []:=fun _ h=>by cases h
theorem ZhA.cons {f:Nat} {d:Array Bool} {a:Act} {w:World} {i:Nat} {o:Oper} {rs:List Nat} (ho:ops[i]? =some o)
 (h: ∀K':Act→World→Prop,Shut (∀a w,(i≠stop→S w)→((i≠stop→S w)→Zgt P md ops Q S stop f (d.setIfInBounds i true) a w)→K' a w)→if Region.wanted o (yielded ops a.tmps)=true then Oper.wp P o a w K' Q else K' (a.put o.dst undef) w)
 (hs:ZhA P md ops Q S stop f d a w rs):ZhA P md ops Q S stop f d a w (i::rs):=fun j hj=>by
 rcases List.mem_cons.1 hj with rfl|hj
 · exact wpOp_step ho fun K' hK=>h K' (fun a w hS hW=>hK a w ⟨hS,hW hS⟩)
 · exact hs j hj
theorem Zbr {rs:List Nat} {f:Nat} {d:Array Bool} {a:Act} {w:World} (hr:Region.ready md ops d=rs) (hne:rs≠[]) (h:ZhA P md ops Q S stop f d a w rs):Zgt P md ops Q S stop (f+1) d a w:=
 ⟨fun h0=>absurd (hr▸h0) hne,hr▸h⟩
theorem ZkQ {d:Array Bool} {a:Act} {w:World} (hr:Region.ready md ops d=[]) (h:Q .normal a w): ∀f,Zgt P md ops Q S stop f d a w
 |0=>⟨hr,h⟩
 |_+1=>⟨fun _=>h,by rw[hr];simp⟩
theorem Zf1 {id:Nat} {a:Act} {w:World} (hm:P.follows .mixedOrders=true) (hS:S w.drew) (h:S w.drew→Zgt P .any ops Q S stop ops.size (Array.replicate ops.size false) a w.drew):(Code.region id ops true).wp P Q a w:=
 wp_region_any hm (Zgt.any _ _ _ _ (h hS))
end
end
section
open Go
end
end Go.Proofs.YtknoncenblehkaaGreatDoor
