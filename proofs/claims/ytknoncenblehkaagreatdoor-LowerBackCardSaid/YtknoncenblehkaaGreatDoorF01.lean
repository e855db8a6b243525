/- What came in, opened: slices of integers, of structs of one- Plain mathematics of the parts of a word (stage 1): no progr Contracts of package arena: what each call answers of an are -/
import Derived.Test.YtknoncenblehkaaGreatDoorF00
import Derived.ProofKit
import Derived.OpenShut
import Derived.Deep.Slices
import Derived.Deep.Fields
import Derived.ChangeSame
import Derived.LaidMore
import Derived.Stop.Joined
import Derived.Test.YtknoncenblehkaaGreatDoorRows
import Derived.Deep.QuietTactic
import Derived.BigQuiet
import Derived.Laws.MakeOwn
set_option maxRecDepth 100000
set_option maxHeartbeats 32000000
set_option linter.unusedSimpArgs false
set_option linter.unusedVariables false
namespace Go.Proofs.YtknoncenblehkaaGreatDoor
section
open Go.ChangeShapes Go.WideShapes Go.RowKit Go.Deep
section
variable {H:Type} {enc:TypeId×Value→H} {P:Program} {w:World} {base b0:Nat} {r:Reach} {sp:Nat→Bool} {held:Bool}
theorem Zf4 {a:Addr} {u:Value} (h:w.cell? (a.add 0)=some u): ∃b o,a=⟨b,o,none⟩∧b<w.heap.size:=by
 have e:a.add 0=a:=by unfold Addr.add;rw[if_pos rfl]
 rw[e] at h;obtain⟨b,o,s⟩:=a;obtain rfl:s=none:=World.cell?_spot h;exact⟨b,o,rfl,World.block_lt_of_cell? w _ h⟩
theorem ZiN {t e:TypeId} {k:IntKind} {v:Value} {d:DataW H} {p:List MemPlace} (ht:P.underlying t=some (.slice e)) (he:P.underlying e=some (.int k)) (hc:P.cellsOf e=1)
 (hv: ∃A len cap,v=.slice A len cap) (h:DataW.Trod enc P w base sp held t v d p):
 ∃zs:List Int,Sl w w.heap.size 1 v zs.length (zs.map fun z=>.int k z)∧ ∀z∈zs,(Lit.int k z).wf=true:=by
 obtain⟨A,len,cap,rfl⟩:=hv;obtain⟨fuel,hf⟩:=h
 rcases open_ints ht he hc hf with⟨hcs,_⟩|⟨a,len',cap',zs,hcs,_,hl,hm,hz,_,hcell,hwz⟩
 · obtain⟨rfl,rfl,rfl⟩:A=none∧len=0∧cap=0:=by simpa[Value.cells] using hcs
   exact⟨[],Sl.nil_,fun _ h=>by cases h⟩
 · obtain⟨rfl,rfl,rfl⟩:A=some a∧len=len'∧cap=cap':=by simpa[Value.cells] using hcs
   have hzl:len≤zs.length:=by rw[hz];split <;> omega
   refine⟨zs.take len,⟨some a,cap,by simp[Nat.min_eq_left hzl],by simp;omega,hm,by simp,fun hn=>?_⟩,fun z hz'=>hwz z (List.mem_of_mem_take hz')⟩
   have hn0:0<zs.length:=by simp at hn;omega
   obtain⟨b,o,rfl,hb⟩:=Zf4 (hcell 0 hn0);refine⟨b,o,rfl,hb,fun j u hu=>?_⟩
   have hj:j<len∧j<zs.length:=by
    rcases Yq j (zs.take len).length with h'|h'
    · simp at h';omega
    · rw[List.getElem?_eq_none (by simpa using h')] at hu;cases hu
   have h1:=hcell j hj.2;rw[add_plain] at h1;rw[h1, ← hu];simp[hj.1,hj.2]
theorem Zex {a:Int} (h:(Lit.int .u64 a).wf=true):a=(a.toNat:Int)∧a.toNat<full:=by
 have:=bounds_u64 h
 exact⟨by omega,by unfold full;omega⟩
theorem ZgA {t e:TypeId} {v:Value} {d:DataW H} {p:List MemPlace} (ht:P.underlying t=some (.slice e)) (he:P.underlying e=some (.int .u64)) (hc:P.cellsOf e=1)
 (hv: ∃A len cap,v=.slice A len cap) (h:DataW.Trod enc P w base sp held t v d p):
 ∃l:List Nat,Sl w w.heap.size 1 v l.length (u64s l)∧ZaM l:=by
 obtain⟨zs,hs,hw⟩:=ZiN ht he hc hv h
 have e1:zs.map (fun z=>Value.int .u64 z)=u64s (zs.map Int.toNat):=by
  unfold u64s;rw[List.map_map];refine List.map_congr_left fun z hz=>?_;rw[(Zex (hw z hz)).1];rfl
 refine⟨zs.map Int.toNat,by rw[e1] at hs;simpa using hs,fun x hx=>?_⟩;simp only[List.mem_map] at hx;obtain⟨z,hz,rfl⟩:=hx;exact(Zex (hw z hz)).2
theorem Zb6 {t e:TypeId} {fs:Array Field} {v:Value} {d:DataW H} {p:List MemPlace} (m:Nat) (ht:P.underlying t=some (.slice e)) (he:P.underlying e=some (.struct fs)) (hone:oneCellFields P fs=true)
 (hm:fs.size=m) (hC:P.cellsOf e=m) (hpos:0<m) (hv: ∃A len cap,v=.slice A len cap) (h:DataW.Trod enc P w base sp held t v d p):
 ∃(n:Nat) (xs:List Value),Sl w w.heap.size m v n xs∧
  ∀i j f,i<n→fs[j]? =some f→ ∃(u:Value) (y:DataW H×List MemPlace) (k:Nat),xs[i * m+j]? =some u∧DataW.trod enc P w base sp held k f.type [u]=some y:=by
 subst hm;obtain⟨A,len,cap,rfl⟩:=hv;obtain⟨fuel,hf⟩:=h
 rcases open_slice ht hf with⟨hcs,_⟩|⟨a,len',cap',m,k,D,Pl,hcs,_,hl,hmx,hmm,_,hi⟩
 · obtain⟨rfl,rfl,rfl⟩:A=none∧len=0∧cap=0:=by simpa[Value.cells] using hcs
   exact⟨0,[],Sl.nil_,fun i _ _ hi _=>absurd hi (Nat.not_lt_zero i)⟩
 · obtain⟨rfl,rfl,rfl⟩:A=some a∧len=len'∧cap=cap':=by simpa[Value.cells] using hcs
   have hlm:len≤m:=by rw[hmm];split <;> omega
   have hall: ∀i j,i<len→j<fs.size→ ∃u,w.cell? (a.add (i * fs.size+j))=some u∧ ∀f,fs[j]? =some f→ ∃(y:DataW H×List MemPlace) (k:Nat),DataW.trod enc P w base sp held k f.type [u]=some y:=by
    intro i j hi' hj;obtain⟨cs',hc,hd⟩:=hi i (by omega);rw[hC] at hc;obtain⟨ys,n', -, -,hlen,hyl,hg⟩:=DataW.trod_struct he hd;obtain⟨_,hcl,hat⟩:=World.cells?_some hc;have hcell:=hat j hj;rw[Go.Deep.add_add,Ya (by omega:j<cs'.length)] at hcell;refine⟨_,hcell,fun f hfj=>?_⟩;obtain⟨ho,hk⟩:=hone_of hone j f hfj;have h1:=hg j f hfj;rw[ho,hk] at h1
    have e1:(cs'.drop j).take 1=[cs'[j]'(by omega)]:=by
     rw[List.drop_eq_getElem_cons (by omega)];rfl
    rw[e1,Ya (by omega:j<ys.length)] at h1;exact⟨_,_,h1⟩
   let cell (k:Nat):Value:=(w.cell? (a.add k)).getD undef
   have hcellAt: ∀k,k<len * fs.size→w.cell? (a.add k)=some (cell k):=by
    intro k hk;have hi':k / fs.size<len:=(Nat.div_lt_iff_lt_mul hpos).2 hk;obtain⟨u,hu,_⟩:=hall (k / fs.size) (k % fs.size) hi' (Nat.mod_lt _ hpos);rw[Nat.div_add_mod'] at hu;simp only[cell,hu,Option.getD_some]
   refine⟨len,(List.range (len * fs.size)).map cell,⟨some a,cap,rfl,hl,hmx,by simp,fun hn=>?_⟩,fun i j f hi' hj=>?_⟩
   · have h0:=hcellAt 0 (Nat.mul_pos hn hpos)
     obtain⟨b,o,rfl,hb⟩:=Zf4 h0;refine⟨b,o,rfl,hb,fun k u hu=>?_⟩
     have hk:k<len * fs.size:=by
      rcases Yq k (len * fs.size) with h'|h'
      · exact h'
      · rw[List.getElem?_eq_none (by simpa using h')] at hu;cases hu
     rw[← add_plain,hcellAt k hk, ← hu];simp[hk]
   · have hjl:j<fs.size:=(Yv.1 hj).1
     have hk:i * fs.size+j<len * fs.size:=by
      have:(i+1) * fs.size≤len * fs.size:=Nat.mul_le_mul_right _ hi'
      rw[Nat.add_mul] at this;omega
     obtain⟨u,hu,hy⟩:=hall i j hi' hjl;obtain⟨y,k',hy'⟩:=hy f hj;refine⟨u,y,k',?_,hy'⟩
     have:=hcellAt _ hk
     rw[hu] at this;simp[hk, ← Yp this]
theorem ZbG {t e:TypeId} {fuel:Nat} {u:Value} {x:DataW H×List MemPlace} (ht:P.underlying t=some (.slice e)) (h:DataW.trod enc P w base sp held fuel t [u]=some x):
 (∃A len cap,u=.slice A len cap)∧DataW.Trod enc P w base sp held t u x.1 x.2:=by
 have hs: ∃A len cap,u=.slice A len cap:=by
  rcases open_slice ht h with⟨hcs,_⟩|⟨a,len,cap,m,k,D,Pl,hcs,_⟩
  · exact⟨none,0,0,by simpa using hcs⟩
  · exact⟨some a,len,cap,by simpa using hcs⟩
 obtain⟨A,len,cap,rfl⟩:=hs;exact⟨⟨A,len,cap,rfl⟩,fuel,h⟩
end
end
section
open Go.ChangeShapes Go.WideShapes Go.RowKit Go.Deep
section
variable {H:Type} {enc:TypeId×Value→H} {P:Program} {w:World} {base b0:Nat} {r:Reach} {sp:Nat→Bool} {held:Bool}
theorem ZaR {t:TypeId} {fs:Array Field} {fuel:Nat} {cs:List Value} {x:DataW H×List MemPlace} (hs:P.underlying t=some (.struct fs)) (hone:oneCellFields P fs=true) (hC:P.cellsOf t=fs.size)
 (h:DataW.trod enc P w base sp held fuel t cs=some x):
 cs.length=fs.size∧ ∃(ys:List (DataW H×List MemPlace)) (k:Nat),x.1=.agg (ys.map (·.1))∧ys.length=fs.size∧ ∀(j:Nat) (f:Field),fs[j]? =some f→ ∃u y,cs[j]? =some u∧ys[j]? =some y∧DataW.trod enc P w base sp held k f.type [u]=some y:=by
 obtain⟨ys,n, -,rfl,hl,hyl,hg⟩:=DataW.trod_struct hs h;rw[hC] at hl;refine⟨hl,ys,n,rfl,hyl,fun j f hj=>?_⟩;obtain⟨ho,hk⟩:=hone_of hone j f hj;have hjl:j<fs.size:=(Yv.1 hj).1;have h1:=hg j f hj
 have e1:(cs.drop j).take 1=[cs[j]'(by omega)]:=by rw[List.drop_eq_getElem_cons (by omega)];rfl
 rw[ho,hk,e1,Ya (by omega:j<ys.length)] at h1;exact⟨_,_,Ya (by omega),Ya (by omega),h1⟩
theorem Zfv {t:TypeId} {fs:Array Field} {fuel:Nat} {cs:List Value} {ns:List Int} {q:List MemPlace} (hs:P.underlying t=some (.struct fs)) (hone:oneCellFields P fs=true) (hC:P.cellsOf t=fs.size)
 (hint:(fs.toList.all fun f=>match P.underlying f.type with|some (.int .i64)=>true|_=>false)=true)
 (h:DataW.trod enc P w base sp held fuel t cs=some (.agg (ns.map fun m=>.lit (.int .i64 m)),q)):cs=ns.map (Value.int .i64):=by
 obtain⟨hl,ys,k,hx,hyl,hg⟩:=ZaR hs hone hC h;simp only[DataW.agg.injEq] at hx
 have hnl:ns.length=fs.size:=by have:=congrArg List.length hx;simpa[hyl] using this
 apply List.ext_getElem?;intro i;by_cases hi:i<fs.size
 · obtain⟨u,y,hu,hy,hd⟩:=hg i fs[i] (by simp[hi])
   have hf:P.underlying (fs[i]).type=some (.int .i64):=by
    have:=List.all_eq_true.1 hint fs[i] (by simp)
    split at this
    · assumption
    · cases this
   obtain⟨z,e1,e2,_⟩:=DataW.trod_int hf hd
   have e3:(ns.map fun m=>(DataW.lit (Lit.int .i64 m):DataW H))[i]? =(ys.map (·.1))[i]? :=by rw[hx]
   rw[List.getElem?_map,List.getElem?_map,hy,Ya (by omega:i<ns.length)] at e3;simp only[Option.map_some,Option.some.injEq] at e3;rw[e2] at e3;simp only[DataW.lit.injEq,Lit.int.injEq,true_and] at e3
   obtain rfl:u=.int .i64 z:=by simpa using e1
   rw[hu,List.getElem?_map,Ya (by omega:i<ns.length),e3];rfl
 · rw[List.getElem?_eq_none (by omega),List.getElem?_eq_none (by simp;omega)]
theorem Zcu {α:Type} (c:Nat): ∀(rows:List (List α)) (cs:List α),cs.length=rows.length * c→(∀i r,rows[i]? =some r→(cs.drop (i * c)).take c=r)→cs=rows.flatten
 |[],cs,hl,_=>List.eq_nil_of_length_eq_zero (by simpa using hl)
 |r::rows,cs,hl,h=>by
  have h0:=h 0 r rfl;rw[Nat.zero_mul,List.drop_zero] at h0
  have ih:=Zcu c rows (cs.drop c) (by rw[List.length_drop,hl,List.length_cons,Nat.add_mul];omega) fun i r' hi=>by
   rw[List.drop_drop]
   have:=h (i+1) r' hi
   rwa [Nat.add_mul,Nat.one_mul,Nat.add_comm] at this
  rw[List.flatten_cons, ← ih, ← h0,List.take_append_drop]
theorem Zgx {t e:TypeId} {n:Nat} {fs:Array Field} {fuel:Nat} {cs:List Value} {rows:List (List Int)} {q:List MemPlace} (ht:P.underlying t=some (.array n e)) (hs:P.underlying e=some (.struct fs)) (hone:oneCellFields P fs=true) (hC:P.cellsOf e=fs.size)
 (hint:(fs.toList.all fun f=>match P.underlying f.type with|some (.int .i64)=>true|_=>false)=true) (hct:P.cellsOf t=n * fs.size)
 (h:DataW.trod enc P w base sp held fuel t cs=some (.agg (rows.map fun r=>.agg (r.map fun m=>.lit (.int .i64 m))),q)):cs=(rows.map fun r=>r.map (Value.int .i64)).flatten:=by
 obtain⟨xs,m, -,hx,hlen,hn,hel⟩:=DataW.trod_array ht h;simp only[Prod.mk.injEq,DataW.agg.injEq] at hx
 have hnl:rows.length=n:=by have:=congrArg List.length hx.1;simpa[hn] using this
 refine Zcu fs.size _ cs (by rw[List.length_map,hlen,hct,hnl]) fun i r hr=>?_;rw[List.getElem?_map] at hr
 have hi:i<rows.length:=by
  rcases Yq i rows.length with h'|h'
  · exact h'
  · rw[List.getElem?_eq_none h'] at hr;cases hr
 rw[Ya hi] at hr;simp only[Option.map_some,Option.some.injEq] at hr;have h1:=hel i (by omega)
 have e3:(rows.map fun r=>(DataW.agg (r.map fun m=>.lit (.int .i64 m)):DataW H))[i]? =(xs.map (·.1))[i]? :=by rw[hx.1]
 rw[List.getElem?_map,List.getElem?_map,Ya hi,Ya (by omega:i<xs.length)] at e3;simp only[Option.map_some,Option.some.injEq] at e3;rw[hC,Ya (by omega:i<xs.length)] at h1;rw[← hr];refine Zfv hs hone hC hint (q:=(xs[i]'(by omega)).2) (h1.trans ?_);rw[e3]
theorem Zni {n:String} {g:Nat} {cs:Array Value} (hg:P.globalNamed n=some g) (h:w.var? P n=some cs): ∃t fr,w.heap[g]? =some (.cells cs t fr):=by
 unfold World.var? at h;rw[hg] at h;simp only[Option.bind_some] at h
 split at h
 · rename_i c t fr hh
   obtain rfl:=Yp h;exact⟨t,fr,hh⟩
 · cases h
end
end
section
open Go.RowKit
theorem ZrS (a:Nat) (h:a<full):IntKind.u64.wrap (a:Int)=a:=by
 rw[IntKind.wrap_u64];unfold full at h;omega
theorem ZjN (n:Nat):((2:Int) ^ n)=((2 ^ n:Nat):Int):=by simp
theorem ZqF (n:Nat) (hn:n≤64):IntKind.u64.wrap (IntKind.u64.wrap ((2:Int) ^ n) - 1)=((2 ^ n - 1:Nat):Int):=by
 have hp:=Nat.two_pow_pos n;rw[ZjN,IntKind.wrap_u64,IntKind.wrap_u64];rcases Yq n 64 with h|h
 · have:=Zji h;unfold full at this;omega
 · obtain rfl:n=64:=by omega
   decide
def on (n:Nat):Nat:=2 ^ n - 1
theorem Ztg (n:Nat) (hn:n≤64):IntKind.u64.wrap (IntKind.u64.wrap ((2:Int) ^ n) - 1)=(on n:Int):=ZqF n hn
theorem ZuH {x n:Nat}:x<2 ^ n↔x≤on n:=by have:=Nat.two_pow_pos n;unfold on;omega
def gt (w a n:Nat):Nat:=w / 2 ^ a % 2 ^ n
def pt (w a n x:Nat):Nat:=w % 2 ^ a+2 ^ a * (x+2 ^ n * (w / 2 ^ (a+n)))
theorem ZuK (w a n:Nat):gt w a n<2 ^ n:=Nat.mod_lt _ (Nat.two_pow_pos n)
theorem Zpf (x n:Nat):x&&& (2 ^ n - 1)=x % 2 ^ n:=Nat.and_two_pow_sub_one_eq_mod x n
theorem ZpJ (w a n:Nat) (hw:w<full) (hn:n≤64):bits .and .u64 ((w:Int) / 2 ^ a) (on n:Int)=(gt w a n:Int):=by
 unfold on
 have e:((w:Int) / 2 ^ a)=((w / 2 ^ a:Nat):Int):=by simp
 have hd:w / 2 ^ a<full:=Nat.lt_of_le_of_lt (Nat.div_le_self _ _) hw;have hp:=ZcH hn;have hq:=Nat.two_pow_pos n;rw[e,u64_and_nat _ _ hd (by unfold full at hp;omega),Zpf];rfl
theorem Zf7 (w a n x j:Nat) (hx:x<2 ^ n):(pt w a n x).testBit j=if j<a then w.testBit j else if j<a+n then x.testBit (j - a) else w.testBit j:=by
 unfold pt;rw[Nat.add_comm,Nat.testBit_two_pow_mul_add _ (Nat.mod_lt _ (Nat.two_pow_pos a))]
 split
 · rename_i h;rw[Nat.testBit_mod_two_pow];simp[h]
 · rename_i h
   rw[Nat.add_comm x,Nat.testBit_two_pow_mul_add _ hx];by_cases h2:j<a+n
   · rw[if_pos (by omega),if_pos h2]
   · rw[if_neg (by omega),if_neg h2,Nat.testBit_div_two_pow]
     congr 1;omega
theorem ZuI (w a n x:Nat) (hw:w<full) (hx:x<2 ^ n) (han:a+n≤64):pt w a n x<full:=by
 rw[Zfk];apply Nat.lt_pow_two_of_testBit;intro i hi;rw[Zf7 _ _ _ _ _ hx,if_neg (by omega),if_neg (by omega)];exact Nat.testBit_lt_two_pow (Yw (by rw[Zfk] at hw;exact hw) (Nat.pow_le_pow_right (by decide) hi))
theorem Zrr (w a n x:Nat) (hw:w<full) (hx:x<2 ^ n) (han:a+n≤64):
 (w&&& (full - 1 - (2 ^ n - 1) * 2 ^ a % full))|||(x * 2 ^ a % full)=pt w a n x:=by
 have hlt: ∀y,y<2 ^ n→y * 2 ^ a<full:=by
  intro y hy;have h1:y * 2 ^ a<2 ^ n * 2 ^ a:=Nat.mul_lt_mul_of_pos_right hy (Nat.two_pow_pos a);rw[← Nat.pow_add] at h1;exact Yw h1 (ZcH (by omega))
 rw[Nat.mod_eq_of_lt (hlt x hx),Nat.mod_eq_of_lt (hlt _ (by have:=Nat.two_pow_pos n;omega))];apply Nat.eq_of_testBit_eq;intro j
 rw[Zf7 _ _ _ _ _ hx,Nat.testBit_or,Nat.testBit_and,Zfk,show 2 ^ 64 - 1 - (2 ^ n - 1) * 2 ^ a=2 ^ 64 - ((2 ^ n - 1) * 2 ^ a+1) by omega,
  Nat.testBit_two_pow_sub_succ (by rw[← Zfk];exact hlt _ (by have:=Nat.two_pow_pos n;omega)),Nat.testBit_mul_two_pow,Nat.testBit_mul_two_pow,Nat.testBit_two_pow_sub_one]
 have hwj:64≤j→w.testBit j=false:=fun h=>Nat.testBit_lt_two_pow (Yw (by rw[Zfk] at hw;exact hw) (Nat.pow_le_pow_right (by decide) h));have hxj:n≤j - a→x.testBit (j - a)=false:=fun h=>Nat.testBit_lt_two_pow (Yw hx (Nat.pow_le_pow_right (by decide) h));by_cases h1:j<a
 · have h64:j<64:=by omega
   simp[h1,h64,Nat.not_le.2 h1]
 · by_cases h2:j<a+n
   · have h64:j<64:=by omega
     have h3:j - a<n:=by omega
     simp[h1,h2,h64,h3,Nat.le_of_not_lt h1]
   · have h3: ¬j - a<n:=by omega
     rw[hxj (by omega)];by_cases h64:j<64
     · simp[h1,h2,h3,h64]
     · simp[h1,h2,h3,h64,hwj (by omega)]
theorem Zmb (x a:Nat):IntKind.u64.wrap ((x:Int) * 2 ^ a)=((x * 2 ^ a % full:Nat):Int):=by
 rw[ZjN, ← Int.natCast_mul,IntKind.wrap_u64];rfl
theorem ZqH (w a n x:Nat) (hw:w<full) (hx:x<2 ^ n) (han:a+n≤64):
 bits .or .u64 (bits .andNot .u64 (w:Int) (IntKind.u64.wrap ((on n:Int) * 2 ^ a))) (IntKind.u64.wrap ((x:Int) * 2 ^ a))=(pt w a n x:Int):=by
 have hf:0<full:=by decide
 have hA:on n * 2 ^ a % full<full:=Nat.mod_lt _ hf;have hB:x * 2 ^ a % full<full:=Nat.mod_lt _ hf;rw[Zmb,Zmb,u64_andNot_nat _ _ hw hA];have hl:w&&& (18446744073709551615 - on n * 2 ^ a % full)<full:=Nat.lt_of_le_of_lt Nat.and_le_left hw;rw[u64_or_nat _ _ hl hB]
 congr 1
 exact Zrr w a n x hw hx han
theorem Zf3 (a n:Int) (w:World) (ha: -9223372036854775808≤a) (ha':a≤9223372036854775807):
 Calls Tryz.prog 162 #[.int .i64 a,.int .i64 n] w fun e w'=>e=.returned (.bool (decide (0≤a∧1≤n∧n≤64 - a)))∧w=w':=by
 by_cases h1:0≤a <;> by_cases h2:1≤n <;> by_cases h3:n≤64 - a
 all_goals
  go_enter Tryz.func162,Tryz.ntmps162
  go_wp2;go_ret;simp[h1,h2,h3]
theorem Zgh (n:Nat) (w:World) (hn:n≤64):
 Calls Tryz.prog 163 #[.int .i64 n] w fun e w'=>e=.returned (.int .u64 (on n))∧w=w':=by
 go_enter Tryz.func163,Tryz.ntmps163
 go_wp2;go_ret;exact⟨Zrl (Ztg n hn),rfl⟩
theorem ZrO (x a n:Nat) (w:World) (hx:x<full) (h1:1≤n) (h2:a+n≤64):
 Calls Tryz.prog 184 #[.int .u64 x,.int .i64 a,.int .i64 n] w fun e w'=>e=.returned (.tuple #[.int .u64 (gt x a n),.bool true])∧ ∃m,w'=w.drewN m:=by
 have hb:=ZZ (ZpJ x a n hx (by omega))
 have hd:decide (0≤(a:Int)∧1≤(n:Int)∧(n:Int)≤64 - a)=true:=by simp;omega
 have HD:=ZZ hd;clear hd
 go_enter Tryz.func184,Tryz.ntmps184
 go_wp2_with (go_at_call 162;refine(Zf3 a n _ (by omega) (by omega)).mono ?_;rw[HD.out];rintro e w' ⟨rfl,rfl⟩)
 go_quiet ((go_at_call 163;exact Calls.quiet_of_same ((Zgh n _ (by omega)).mono fun _ _ h=>⟨h.1,h.2.symm⟩)))
 go_wp2;go_ret2;exact⟨by rw[hb.out];rfl,_,rfl⟩
theorem ZrR (w0 a n x:Nat) (w:World) (hw0:w0<full) (h1:1≤n) (h2:a+n≤64) (hx:x≤on n):
 Calls Tryz.prog 132 #[.int .u64 w0,.int .i64 a,.int .i64 n,.int .u64 x] w fun e w'=>e=.returned (.tuple #[.int .u64 (pt w0 a n x),.bool true])∧ ∃m,w'=w.drewN m:=by
 have hb:=ZZ (ZqH w0 a n x hw0 (ZuH.2 hx) h2)
 have hd:decide (0≤(a:Int)∧1≤(n:Int)∧(n:Int)≤64 - a)=true:=by simp;omega
 have HD:=ZZ hd
 have hx':(x:Int)≤(on n:Int):=by omega
 clear hd
 go_enter Tryz.func132,Tryz.ntmps132
 go_wp2_with (first
  |(go_at_call 162;refine(Zf3 a n _ (by omega) (by omega)).mono ?_;rw[HD.out];rintro e w' ⟨rfl,rfl⟩)
  |(go_at_call 163;refine(Zgh n _ (by omega)).mono ?_;rintro e w' ⟨rfl,rfl⟩))
 go_quiet ((go_at_call 163;exact Calls.quiet_of_same ((Zgh n _ (by omega)).mono fun _ _ h=>⟨h.1,h.2.symm⟩)))
 go_wp2;go_ret2;exact⟨by rw[hb.out];rfl,_,rfl⟩
structure Ar (w:World) (b g:Nat) (l:List Nat):Prop where
 head:Blk w b 160 #[.bool true,.slice (some ⟨g,0,none⟩) l.length l.length]
 row:Blk w g 57 (u64s l).toArray
 few:l.length≤98304
 words:ZaM l
section
variable {w w':World} {b g:Nat} {l:List Nat} {F:Nat→Prop}
theorem Ar.ne (h:Ar w b g l):b≠g:=h.head.ne h.row (by decide)
theorem Ar.keep (h:Ar w b g l) (ho:Only F w w') (hb: ¬F b) (hg: ¬F g):Ar w' b g l:=⟨h.head.keep ho hb,h.row.keep ho hg,h.few,h.words⟩
end
def chk (len:Nat) (at_ n:Int):Int:=if n<0 then 1 else if at_<0∨(len:Int) - at_<n then 2 else 0
theorem ZbX (b g:Nat) (l:List Nat) (w:World) (h:Ar w b g l):
 Calls Tryz.prog 167 #[.pointer (some ⟨b,0,none⟩)] w fun e w'=>e=.returned (.bool false)∧w=w':=by
 have h0:=h.head.cell 0;simp at h0;clear h
 go_enter Tryz.func167,Tryz.ntmps167
 go_wp2;go_ret;exact⟨rfl,rfl⟩
theorem ZuG {len:Nat} {a n:Int} (h:n<0):chk len a n=1:=by unfold chk;rw[if_pos h]
theorem ZrJ {len:Nat} {a n:Int} (h: ¬n<0) (k:a<0∨(len:Int) - a<n):chk len a n=2:=by unfold chk;rw[if_neg h,if_pos k]
theorem ZtX {len:Nat} {a n:Int} (h: ¬n<0) (k: ¬(a<0∨(len:Int) - a<n)):chk len a n=0:=by unfold chk;rw[if_neg h,if_neg k]
def Zrq (len:Nat) (a n:Int):Prop:=0≤n∧0≤a∧n≤(len:Int) - a
theorem Zty {len:Nat} {a n:Int} (h:Zrq len a n):chk len a n=0:=ZtX (by unfold Zrq at h;omega) (by unfold Zrq at h;omega)
theorem Zj5 (b g:Nat) (l:List Nat) (a n:Int) (w:World) (h:Ar w b g l) (ha:a≤9223372036854775807):
 Calls Tryz.prog 166 #[.pointer (some ⟨b,0,none⟩),.int .i64 a,.int .i64 n] w fun e w'=>e=.returned (.int .i64 (chk l.length a n))∧w=w':=by
 have h1:=h.head.cell 1;simp at h1;have hl:=h.few;by_cases hn:n<0
 · have HC:=ZZ (ZuG (len:=l.length) (a:=a) hn)
   go_enter Tryz.func166,Tryz.ntmps166
   go_wp2_with (go_at_call 167;refine(ZbX b g l _ h).mono ?_;rintro e w' ⟨rfl,rfl⟩)
   go_ret;exact⟨ZbZ HC.out.symm,rfl⟩
 · by_cases h2:a<0
   · have HC:=ZZ (ZrJ (len:=l.length) (a:=a) hn (.inl h2))
     go_enter Tryz.func166,Tryz.ntmps166
     go_wp2_with (go_at_call 167;refine(ZbX b g l _ h).mono ?_;rintro e w' ⟨rfl,rfl⟩)
     go_ret;exact⟨ZbZ HC.out.symm,rfl⟩
   · by_cases h3:(l.length:Int) - a<n
     · have HC:=ZZ (ZrJ (len:=l.length) (a:=a) hn (.inr h3))
       go_enter Tryz.func166,Tryz.ntmps166
       go_wp2_with (go_at_call 167;refine(ZbX b g l _ h).mono ?_;rintro e w' ⟨rfl,rfl⟩)
       go_ret;exact⟨ZbZ HC.out.symm,rfl⟩
     · have HC:=ZZ (ZtX (len:=l.length) (a:=a) hn (by omega))
       go_enter Tryz.func166,Tryz.ntmps166
       go_wp2_with (go_at_call 167;refine(ZbX b g l _ h).mono ?_;rintro e w' ⟨rfl,rfl⟩)
       go_ret;exact⟨ZbZ HC.out.symm,rfl⟩
theorem ZtM (b g:Nat) (l:List Nat) (w:World) (h:Ar w b g l):
 Calls Tryz.prog 137 #[.pointer (some ⟨b,0,none⟩)] w fun e w'=>e=.returned (.int .i64 (l.length:Nat))∧w=w':=by
 have h1:=h.head.cell 1;simp at h1
 go_enter Tryz.func137,Tryz.ntmps137
 go_wp2_with (go_at_call 167;refine(ZbX b g l _ h).mono ?_;rintro e w' ⟨rfl,rfl⟩)
 go_ret;exact⟨rfl,rfl⟩
theorem Zoi (b g:Nat) (l:List Nat) (a:Nat) (w:World) (h:Ar w b g l) (ha:a<l.length):
 Calls Tryz.prog 136 #[.pointer (some ⟨b,0,none⟩),.int .i64 a] w fun e w'=>e=.returned (.tuple #[.int .u64 (wd l a:Nat),.int .i64 0])∧w=w':=by
 have h1:=h.head.cell 1;simp at h1;have hl:=h.few
 have hc:w.cell? ⟨g,a,none⟩=some (.int .u64 (wd l a:Nat)):=by rw[h.row.cell];simpa using ZsU l a ha
 have HK:=ZZ (Zty (len:=l.length) (a:=a) (n:=1) ⟨by omega,by omega,by omega⟩)
 go_enter Tryz.func136,Tryz.ntmps136
 go_wp2_with (go_at_call 166;refine(Zj5 b g l _ _ _ h (by omega)).mono ?_;rw[HK.out];rintro e w' ⟨rfl,rfl⟩)
 go_ret2;exact⟨rfl,rfl⟩
theorem Zlc (b g:Nat) (l:List Nat) (a:Int) (w:World) (h:Ar w b g l) (ha:a≤9223372036854775807) (hn: ¬(0≤a∧a<l.length)):
 Calls Tryz.prog 136 #[.pointer (some ⟨b,0,none⟩),.int .i64 a] w fun e w'=>e=.returned (.tuple #[.int .u64 0,.int .i64 2])∧w=w':=by
 have HK:=ZZ (ZrJ (len:=l.length) (a:=a) (n:=1) (by omega) (by omega))
 go_enter Tryz.func136,Tryz.ntmps136
 go_wp2_with (go_at_call 166;refine(Zj5 b g l _ _ _ h (by omega)).mono ?_;rw[HK.out];rintro e w' ⟨rfl,rfl⟩)
 go_ret2;exact⟨rfl,rfl⟩
theorem Ar.set {w:World} {b g:Nat} {l:List Nat} (h:Ar w b g l) (a x:Nat) (hx:x<full):Ar (w.setCell ⟨g,a,none⟩ (.int .u64 (x:Nat))) b g (l.set a x):=by
 refine⟨?_,?_,by simpa using h.few,h.words.set a x hx⟩
 · have:=h.head.other (p:=⟨g,a,none⟩) (fun e=>h.ne e.symm) (.int .u64 (x:Nat))
   simpa using this
 · have:=h.row.put a (.int .u64 (x:Nat))
   rw[Yb,Zqq] at this;exact this
end
section
open Go.RowKit
theorem Zd9:(Tryz.prog.info? 57).map (fun i=>(i.zero,i.size,i.bytes))=some (some (.int .u64 0),1,8):=by kernel_rfl
theorem ZjG:(Tryz.prog.info? 57).map (·.size)=some 1:=by kernel_rfl
theorem ZkF (n:Nat) (hn:n≤17592186044416) (w:World):(Instr.makeSlice 30 (.int .i64 (n:Int)) (.int .i64 (n:Int))).run Tryz.prog w=.ok (.slice (some ⟨w.heap.size,0,none⟩) n n) (w.alloc (.cells (u64s (List.replicate n 0)).toArray 57)):=by
 obtain⟨i0,hi0,hz0,hz1,hz2⟩:=info_parts Zd9;have h:=run_make (P:=Tryz.prog) w 30 57 i0 _ Tryz.underlying30 hi0 hz0 .i64 .i64 n n (by omega) (Int.le_refl _) (by rw[hz2];omega) (by omega);rw[h];simp only[Int.toNat_natCast,hz1,Nat.mul_one]
 have e:madeCells (Value.int .u64 0).cells n=(u64s (List.replicate n 0)).toArray:=by
  apply Array.ext';show(madeCells #[.int .u64 0] n).toList=_;rw[toList_madeCells_one];simp[u64s]
 rw[e]
theorem Zn2 (v:Value) (l:List Nat) (w:World) (h:Sl w w.heap.size 1 v l.length (u64s l)) (hn:l.length≤98304):
 Calls Tryz.prog 101 #[v] w fun e w'=> ∃g,e=.returned (.slice (some ⟨g,0,none⟩) l.length l.length)∧w.heap.size≤g∧Blk w' g 57 (u64s l).toArray∧Only nob w w':=by
 obtain⟨A,c,rfl,h1,h2,h3,h4⟩:=h;have hmk:=ZkF l.length (by omega)
 go_enter Tryz.func101,Tryz.ntmps101
 go_wp2_with (with_reducible refine ZdO (o:=⟨some 9,_,_,_,_,_⟩) rfl (.tmp 7) (.tmp 8) _ _ rfl 57 Tryz.underlying30 ZjG (some ⟨w.heap.size,0,none⟩) A l.length l.length c rfl rfl w.heap.size 0 (u64s (List.replicate l.length 0)).toArray 57 ?c0 (u64s l) (Zaw l) ?c1 ?c2 (Zc7 l) ?c3)
 case c0=>exact Blk.new _ _ _
 case c1=>
  intro hp;obtain⟨b,o,e,hb,hc⟩:=h4 hp;exact⟨b,o,e,fun j v hv=>(World.cell?_alloc_lt w _ ⟨b,o+j,none⟩ hb).trans (hc j v hv)⟩
 case c2=>simp[Zaw]
 case c3=>
  intro w1 H1 o1
  have hb:Blk w1 w.heap.size 57 (u64s l).toArray:=by
   have:=H1.out
   rw[Zej,Ziy _ _ (by simp)] at this;exact this
  have HB:=ZZ hb;clear hb H1 h4 hmk;go_wp2;go_ret;exact⟨_,rfl,Yj _,HB.out,(Only.refl nob w).alloc _|>.andThen o1 fun i hi e=>by unfold isb at e;omega⟩
theorem Zrc (v:Value) (l:List Nat) (w:World) (h:Sl w w.heap.size 1 v l.length (u64s l)) (hn:l.length≤98304) (hw:ZaM l):
 Calls Tryz.prog 70 #[v] w fun e w'=> ∃b g,e=.returned (.tuple #[.pointer (some ⟨b,0,none⟩),.int .i64 0])∧w.heap.size≤b∧w.heap.size≤g∧Ar w' b g l∧Only nob w w':=by
 have H:=ZZ h;obtain⟨A,c,rfl,h1,h2, -⟩:=h
 go_enter Tryz.func70,Tryz.ntmps70
 go_wp2_with fail
 refine(Zn2 _ l _ H.out hn).mono ?_;rintro e w1 ⟨g,rfl,hg,hb,ho⟩;have HB:=ZZ hb;clear hb;go_wp2;go_ret2;have hb:=HB.out;exact⟨w1.heap.size,g,rfl,ho.size,hg,⟨Blk.new _ _ _,hb.alloc _,hn,hw⟩,ho.alloc _⟩
def part (l:List Nat) (f n:Nat):List Nat:=(l.drop f).take n
theorem Zay (l:List Nat) (f n:Nat) (h:f+n≤l.length):(part l f n).length=n:=by simp[part];omega
theorem ZgX (l:List Nat) (f n k:Nat) (h:f+n≤l.length) (hk:k<n):(part l f n)[k]? =some (wd l (f+k)):=by
 rw[Zrh l (f+k) (by omega)];simp[part,hk,List.getElem?_drop,Ya (show f+k<l.length by omega)]
def ZuA (w:World) (v:Value):Prop:=v=.pointer none∨ ∃b,v=.pointer (some ⟨b,0,none⟩)∧Blk w b 160 #[.bool false,.slice none 0 0]
end
end Go.Proofs.YtknoncenblehkaaGreatDoor
