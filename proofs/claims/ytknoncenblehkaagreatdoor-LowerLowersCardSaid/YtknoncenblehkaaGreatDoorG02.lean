/- What came in, opened: slices of integers, of structs of one- -/
import Derived.Test.YtknoncenblehkaaGreatDoorG01
import Derived.ProofKit
import Derived.OpenShut
import Derived.Deep.Slices
import Derived.Deep.Fields
import Derived.ChangeSame
import Derived.LaidMore
import Derived.Stop.Joined
set_option maxRecDepth 100000
set_option maxHeartbeats 32000000
set_option linter.unusedSimpArgs false
set_option linter.unusedVariables false
namespace Go.Proofs.YtknoncenblehkaaGreatDoor
section
open Go.ChangeShapes Go.WideShapes Go.RowKit Go.Deep
section
variable {H:Type} {enc:TypeId×Value→H} {P:Program} {w:World} {base b0:Nat} {r:Reach} {sp:Nat→Bool} {held:Bool}
theorem Zek {a:Addr} {u:Value} (h:w.cell? (a.add 0)=some u): ∃b o,a=⟨b,o,none⟩∧b<w.heap.size:=by
 have e:a.add 0=a:=by unfold Addr.add;rw[if_pos rfl]
 rw[e] at h;obtain⟨b,o,s⟩:=a;obtain rfl:s=none:=World.cell?_spot h;exact⟨b,o,rfl,World.block_lt_of_cell? w _ h⟩
theorem ZgM {t e:TypeId} {k:IntKind} {v:Value} {d:DataW H} {p:List MemPlace} (ht:P.underlying t=some (.slice e)) (he:P.underlying e=some (.int k)) (hc:P.cellsOf e=1)
 (hv: ∃A len cap,v=.slice A len cap) (h:DataW.Trod enc P w base sp held t v d p):
 ∃zs:List Int,Sl w w.heap.size 1 v zs.length (zs.map fun z=>.int k z)∧ ∀z∈zs,(Lit.int k z).wf=true:=by
 obtain⟨A,len,cap,rfl⟩:=hv;obtain⟨fuel,hf⟩:=h
 rcases open_ints ht he hc hf with⟨hcs,_⟩|⟨a,len',cap',zs,hcs,_,hl,hm,hz,_,hcell,hwz⟩
 · obtain⟨rfl,rfl,rfl⟩:A=none∧len=0∧cap=0:=by simpa[Value.cells] using hcs
   exact⟨[],Sl.nil_,fun _ h=>by cases h⟩
 · obtain⟨rfl,rfl,rfl⟩:A=some a∧len=len'∧cap=cap':=by simpa[Value.cells] using hcs
   have hzl:len≤zs.length:=by rw[hz];split <;> omega
   refine⟨zs.take len,⟨some a,cap,by simp[Nat.min_eq_left hzl],by simp;omega,hm,by simp,fun hn=>?_⟩,fun z hz'=>hwz z (List.mem_of_mem_take hz')⟩
   have hn0:0<zs.length:=by simp at hn;omega
   obtain⟨b,o,rfl,hb⟩:=Zek (hcell 0 hn0);refine⟨b,o,rfl,hb,fun j u hu=>?_⟩
   have hj:j<len∧j<zs.length:=by
    rcases Yp j (zs.take len).length with h'|h'
    · simp at h';omega
    · rw[List.getElem?_eq_none (by simpa using h')] at hu;cases hu
   have h1:=hcell j hj.2;rw[add_plain] at h1;rw[h1, ← hu];simp[hj.1,hj.2]
theorem ZdS {a:Int} (h:(Lit.int .u64 a).wf=true):a=(a.toNat:Int)∧a.toNat<full:=by
 have:=bounds_u64 h
 exact⟨by omega,by unfold full;omega⟩
theorem Zfm {t e:TypeId} {v:Value} {d:DataW H} {p:List MemPlace} (ht:P.underlying t=some (.slice e)) (he:P.underlying e=some (.int .u64)) (hc:P.cellsOf e=1)
 (hv: ∃A len cap,v=.slice A len cap) (h:DataW.Trod enc P w base sp held t v d p):
 ∃l:List Nat,Sl w w.heap.size 1 v l.length (u64s l)∧Zbt l:=by
 obtain⟨zs,hs,hw⟩:=ZgM ht he hc hv h
 have e1:zs.map (fun z=>Value.int .u64 z)=u64s (zs.map Int.toNat):=by
  unfold u64s;rw[List.map_map];refine List.map_congr_left fun z hz=>?_;rw[(ZdS (hw z hz)).1];rfl
 refine⟨zs.map Int.toNat,by rw[e1] at hs;simpa using hs,fun x hx=>?_⟩;simp only[List.mem_map] at hx;obtain⟨z,hz,rfl⟩:=hx;exact(ZdS (hw z hz)).2
theorem Zbq {t e:TypeId} {fs:Array Field} {v:Value} {d:DataW H} {p:List MemPlace} (m:Nat) (ht:P.underlying t=some (.slice e)) (he:P.underlying e=some (.struct fs)) (hone:oneCellFields P fs=true)
 (hm:fs.size=m) (hC:P.cellsOf e=m) (hpos:0<m) (hv: ∃A len cap,v=.slice A len cap) (h:DataW.Trod enc P w base sp held t v d p):
 ∃(n:Nat) (xs:List Value),Sl w w.heap.size m v n xs∧
  ∀i j f,i<n→fs[j]? =some f→ ∃(u:Value) (y:DataW H×List MemPlace) (k:Nat),xs[i * m+j]? =some u∧DataW.trod enc P w base sp held k f.type [u]=some y:=by
 subst hm;obtain⟨A,len,cap,rfl⟩:=hv;obtain⟨fuel,hf⟩:=h
 rcases open_slice ht hf with⟨hcs,_⟩|⟨a,len',cap',m,k,D,Pl,hcs,_,hl,hmx,hmm,_,hi⟩
 · obtain⟨rfl,rfl,rfl⟩:A=none∧len=0∧cap=0:=by simpa[Value.cells] using hcs
   exact⟨0,[],Sl.nil_,fun i _ _ hi _=>absurd hi (Nat.not_lt_zero i)⟩
 · obtain⟨rfl,rfl,rfl⟩:A=some a∧len=len'∧cap=cap':=by simpa[Value.cells] using hcs
   have hlm:len≤m:=by rw[hmm];split <;> omega
   have hall: ∀i j,i<len→j<fs.size→ ∃u,w.cell? (a.add (i * fs.size+j))=some u∧ ∀f,fs[j]? =some f→ ∃(y:DataW H×List MemPlace) (k:Nat),DataW.trod enc P w base sp held k f.type [u]=some y:=by
    intro i j hi' hj;obtain⟨cs',hc,hd⟩:=hi i (by omega);rw[hC] at hc;obtain⟨ys,n', -, -,hlen,hyl,hg⟩:=DataW.trod_struct he hd;obtain⟨_,hcl,hat⟩:=World.cells?_some hc;have hcell:=hat j hj;rw[Go.Deep.add_add,Ya (by omega:j<cs'.length)] at hcell;refine⟨_,hcell,fun f hfj=>?_⟩;obtain⟨ho,hk⟩:=hone_of hone j f hfj;have h1:=hg j f hfj;rw[ho,hk] at h1
    have e1:(cs'.drop j).take 1=[cs'[j]'(by omega)]:=by
     rw[List.drop_eq_getElem_cons (by omega)];rfl
    rw[e1,Ya (by omega:j<ys.length)] at h1;exact⟨_,_,h1⟩
   let cell (k:Nat):Value:=(w.cell? (a.add k)).getD undef
   have hcellAt: ∀k,k<len * fs.size→w.cell? (a.add k)=some (cell k):=by
    intro k hk;have hi':k / fs.size<len:=(Nat.div_lt_iff_lt_mul hpos).2 hk;obtain⟨u,hu,_⟩:=hall (k / fs.size) (k % fs.size) hi' (Nat.mod_lt _ hpos);rw[Nat.div_add_mod'] at hu;simp only[cell,hu,Option.getD_some]
   refine⟨len,(List.range (len * fs.size)).map cell,⟨some a,cap,rfl,hl,hmx,by simp,fun hn=>?_⟩,fun i j f hi' hj=>?_⟩
   · have h0:=hcellAt 0 (Nat.mul_pos hn hpos)
     obtain⟨b,o,rfl,hb⟩:=Zek h0;refine⟨b,o,rfl,hb,fun k u hu=>?_⟩
     have hk:k<len * fs.size:=by
      rcases Yp k (len * fs.size) with h'|h'
      · exact h'
      · rw[List.getElem?_eq_none (by simpa using h')] at hu;cases hu
     rw[← add_plain,hcellAt k hk, ← hu];simp[hk]
   · have hjl:j<fs.size:=(Yu.1 hj).1
     have hk:i * fs.size+j<len * fs.size:=by
      have:(i+1) * fs.size≤len * fs.size:=Nat.mul_le_mul_right _ hi'
      rw[Nat.add_mul] at this;omega
     obtain⟨u,hu,hy⟩:=hall i j hi' hjl;obtain⟨y,k',hy'⟩:=hy f hj;refine⟨u,y,k',?_,hy'⟩
     have:=hcellAt _ hk
     rw[hu] at this;simp[hk, ← Yo this]
theorem Zbj {t e:TypeId} {fuel:Nat} {u:Value} {x:DataW H×List MemPlace} (ht:P.underlying t=some (.slice e)) (h:DataW.trod enc P w base sp held fuel t [u]=some x):
 (∃A len cap,u=.slice A len cap)∧DataW.Trod enc P w base sp held t u x.1 x.2:=by
 have hs: ∃A len cap,u=.slice A len cap:=by
  rcases open_slice ht h with⟨hcs,_⟩|⟨a,len,cap,m,k,D,Pl,hcs,_⟩
  · exact⟨none,0,0,by simpa using hcs⟩
  · exact⟨some a,len,cap,by simpa using hcs⟩
 obtain⟨A,len,cap,rfl⟩:=hs;exact⟨⟨A,len,cap,rfl⟩,fuel,h⟩
end
end
section
open Go.ChangeShapes Go.WideShapes Go.RowKit Go.Deep
section
variable {H:Type} {enc:TypeId×Value→H} {P:Program} {w:World} {base b0:Nat} {r:Reach} {sp:Nat→Bool} {held:Bool}
theorem ZaC {t:TypeId} {fs:Array Field} {fuel:Nat} {cs:List Value} {x:DataW H×List MemPlace} (hs:P.underlying t=some (.struct fs)) (hone:oneCellFields P fs=true) (hC:P.cellsOf t=fs.size)
 (h:DataW.trod enc P w base sp held fuel t cs=some x):
 cs.length=fs.size∧ ∃(ys:List (DataW H×List MemPlace)) (k:Nat),x.1=.agg (ys.map (·.1))∧ys.length=fs.size∧ ∀(j:Nat) (f:Field),fs[j]? =some f→ ∃u y,cs[j]? =some u∧ys[j]? =some y∧DataW.trod enc P w base sp held k f.type [u]=some y:=by
 obtain⟨ys,n, -,rfl,hl,hyl,hg⟩:=DataW.trod_struct hs h;rw[hC] at hl;refine⟨hl,ys,n,rfl,hyl,fun j f hj=>?_⟩;obtain⟨ho,hk⟩:=hone_of hone j f hj;have hjl:j<fs.size:=(Yu.1 hj).1;have h1:=hg j f hj
 have e1:(cs.drop j).take 1=[cs[j]'(by omega)]:=by rw[List.drop_eq_getElem_cons (by omega)];rfl
 rw[ho,hk,e1,Ya (by omega:j<ys.length)] at h1;exact⟨_,_,Ya (by omega),Ya (by omega),h1⟩
theorem Zef {t:TypeId} {fs:Array Field} {fuel:Nat} {cs:List Value} {ns:List Int} {q:List MemPlace} (hs:P.underlying t=some (.struct fs)) (hone:oneCellFields P fs=true) (hC:P.cellsOf t=fs.size)
 (hint:(fs.toList.all fun f=>match P.underlying f.type with|some (.int .i64)=>true|_=>false)=true)
 (h:DataW.trod enc P w base sp held fuel t cs=some (.agg (ns.map fun m=>.lit (.int .i64 m)),q)):cs=ns.map (Value.int .i64):=by
 obtain⟨hl,ys,k,hx,hyl,hg⟩:=ZaC hs hone hC h;simp only[DataW.agg.injEq] at hx
 have hnl:ns.length=fs.size:=by have:=congrArg List.length hx;simpa[hyl] using this
 apply List.ext_getElem?;intro i;by_cases hi:i<fs.size
 · obtain⟨u,y,hu,hy,hd⟩:=hg i fs[i] (by simp[hi])
   have hf:P.underlying (fs[i]).type=some (.int .i64):=by
    have:=List.all_eq_true.1 hint fs[i] (by simp)
    split at this
    · assumption
    · cases this
   obtain⟨z,e1,e2,_⟩:=DataW.trod_int hf hd
   have e3:(ns.map fun m=>(DataW.lit (Lit.int .i64 m):DataW H))[i]? =(ys.map (·.1))[i]? :=by rw[hx]
   rw[List.getElem?_map,List.getElem?_map,hy,Ya (by omega:i<ns.length)] at e3;simp only[Option.map_some,Option.some.injEq] at e3;rw[e2] at e3;simp only[DataW.lit.injEq,Lit.int.injEq,true_and] at e3
   obtain rfl:u=.int .i64 z:=by simpa using e1
   rw[hu,List.getElem?_map,Ya (by omega:i<ns.length),e3];rfl
 · rw[List.getElem?_eq_none (by omega),List.getElem?_eq_none (by simp;omega)]
theorem ZbV {α:Type} (c:Nat): ∀(rows:List (List α)) (cs:List α),cs.length=rows.length * c→(∀i r,rows[i]? =some r→(cs.drop (i * c)).take c=r)→cs=rows.flatten
 |[],cs,hl,_=>List.eq_nil_of_length_eq_zero (by simpa using hl)
 |r::rows,cs,hl,h=>by
  have h0:=h 0 r rfl;rw[Nat.zero_mul,List.drop_zero] at h0
  have ih:=ZbV c rows (cs.drop c) (by rw[List.length_drop,hl,List.length_cons,Nat.add_mul];omega) fun i r' hi=>by
   rw[List.drop_drop]
   have:=h (i+1) r' hi
   rwa [Nat.add_mul,Nat.one_mul,Nat.add_comm] at this
  rw[List.flatten_cons, ← ih, ← h0,List.take_append_drop]
theorem Zfe {t e:TypeId} {n:Nat} {fs:Array Field} {fuel:Nat} {cs:List Value} {rows:List (List Int)} {q:List MemPlace} (ht:P.underlying t=some (.array n e)) (hs:P.underlying e=some (.struct fs)) (hone:oneCellFields P fs=true) (hC:P.cellsOf e=fs.size)
 (hint:(fs.toList.all fun f=>match P.underlying f.type with|some (.int .i64)=>true|_=>false)=true) (hct:P.cellsOf t=n * fs.size)
 (h:DataW.trod enc P w base sp held fuel t cs=some (.agg (rows.map fun r=>.agg (r.map fun m=>.lit (.int .i64 m))),q)):cs=(rows.map fun r=>r.map (Value.int .i64)).flatten:=by
 obtain⟨xs,m, -,hx,hlen,hn,hel⟩:=DataW.trod_array ht h;simp only[Prod.mk.injEq,DataW.agg.injEq] at hx
 have hnl:rows.length=n:=by have:=congrArg List.length hx.1;simpa[hn] using this
 refine ZbV fs.size _ cs (by rw[List.length_map,hlen,hct,hnl]) fun i r hr=>?_;rw[List.getElem?_map] at hr
 have hi:i<rows.length:=by
  rcases Yp i rows.length with h'|h'
  · exact h'
  · rw[List.getElem?_eq_none h'] at hr;cases hr
 rw[Ya hi] at hr;simp only[Option.map_some,Option.some.injEq] at hr;have h1:=hel i (by omega)
 have e3:(rows.map fun r=>(DataW.agg (r.map fun m=>.lit (.int .i64 m)):DataW H))[i]? =(xs.map (·.1))[i]? :=by rw[hx.1]
 rw[List.getElem?_map,List.getElem?_map,Ya hi,Ya (by omega:i<xs.length)] at e3;simp only[Option.map_some,Option.some.injEq] at e3;rw[hC,Ya (by omega:i<xs.length)] at h1;rw[← hr];refine Zef hs hone hC hint (q:=(xs[i]'(by omega)).2) (h1.trans ?_);rw[e3]
theorem ZkQ {n:String} {g:Nat} {cs:Array Value} (hg:P.globalNamed n=some g) (h:w.var? P n=some cs): ∃t fr,w.heap[g]? =some (.cells cs t fr):=by
 unfold World.var? at h;rw[hg] at h;simp only[Option.bind_some] at h
 split at h
 · rename_i c t fr hh
   obtain rfl:=Yo h;exact⟨t,fr,hh⟩
 · cases h
end
end
end Go.Proofs.YtknoncenblehkaaGreatDoor
