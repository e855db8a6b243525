/- A graph as a heap may be; lifted, it is the graph in another -/
import Derived.Test.YtknoncenblehkaaGreatDoorG34
set_option maxRecDepth 100000
set_option maxHeartbeats 32000000
set_option linter.unusedSimpArgs false
set_option linter.unusedVariables false
namespace Go.Proofs.YtknoncenblehkaaGreatDoor
open Go.RowKit
section
variable {c:Cf} {sec:Bool} {g:Gr}
def atP (c:Cf) (sec:Bool) (g:Gr) (i:Int):Int:=(loPl c sec g).getD i.toNat 0
theorem ZfM {i:Nat} {d:Nd} (h:g.nd[i]? =some d):(loPl c sec g)[i]? =some (atP c sec g i)∧(atP c sec g i,d)∈(loPl c sec g).zip g.nd:=by
 have hi:=(Yj.1 h).1
 have hl:i<(loPl c sec g).length:=by unfold loPl;rw[Zbo];exact hi
 have e:(loPl c sec g)[i]? =some (atP c sec g i):=by
  unfold atP;rw[Int.toNat_natCast,Ym,Ya hl];rfl
 refine⟨e,Yn (i:=i) ?_⟩;rw[List.getElem?_zip_eq_some];exact⟨e,h⟩
theorem LoOk.objs_are (h:LoOk c sec g):(ZaK c sec g).objs=(loO c g).map (atP c sec g):=by
 obtain⟨e1,e2⟩:=Zoe (c:=c) (loPl c sec g) g.nd (loT c sec) (loB c) 0 (by rw[List.drop_zero];rfl);rw[h.objs,e1,e2, ← List.map_append];rfl
theorem Zk0 {l:List (Int×Nd)} (h:l.Pairwise fun x y=>x.1+ndSz x.2≤y.1∨y.1+ndSz y.2≤x.1) {i j:Nat} (hij:i<j) {x y:Int} {d e:Nd} (hi:l[i]? =some (x,d)) (hj:l[j]? =some (y,e)):x+ndSz d≤y∨y+ndSz e≤x:=by
 obtain⟨b1,q1⟩:=Yj.1 hi;obtain⟨b2,q2⟩:=Yj.1 hj
 have:=List.pairwise_iff_getElem.1 h i j b1 b2 hij
 rw[q1,q2] at this;exact this
theorem LoOk.pairs (h:LoOk c sec g):((loPl c sec g).zip g.nd).Pairwise fun x y=>x.1+ndSz x.2≤y.1∨y.1+ndSz y.2≤x.1:=
 Zc6 g.nd (loT c sec) (loB c) h.szs fun hb=>by have:=h.far hb;have:=h.small;omega
theorem LoOk.inj (h:LoOk c sec g) {i j:Nat} (hi:i<g.nd.length) (hj:j<g.nd.length) (e:atP c sec g i=atP c sec g j):i=j:=by
 have key: ∀{i j:Nat},i<j→j<g.nd.length→atP c sec g i≠atP c sec g j:=fun {i j} hij hj e=>by
  have hi':g.nd[i]? =some g.nd[i]:=Ya (by omega);have hj':g.nd[j]? =some g.nd[j]:=Ya hj;have hz:((loPl c sec g).zip g.nd)[i]? =some (atP c sec g i,g.nd[i]):=List.getElem?_zip_eq_some.2 ⟨(ZfM (c:=c) (sec:=sec) hi').1,hi'⟩;have hz2:((loPl c sec g).zip g.nd)[j]? =some (atP c sec g j,g.nd[j]):=List.getElem?_zip_eq_some.2 ⟨(ZfM (c:=c) (sec:=sec) hj').1,hj'⟩;have s1:=(h.szs _ (Yn hi')).1;have s2:=(h.szs _ (Yn hj')).1
  have:=Zk0 h.pairs hij hz hz2
  generalize ndSz g.nd[i]=a at this s1;generalize ndSz g.nd[j]=b at this s2;generalize atP c sec g i=x at this e;generalize atP c sec g j=y at this e;omega
 rcases Nat.lt_trichotomy i j with hh|hh|hh
 · exact absurd e (key hh hj)
 · exact hh
 · exact absurd e.symm (key hh hi)
theorem LoOk.obj_at (h:LoOk c sec g) {i:Nat} (hi:i<g.nd.length):atP c sec g i∈(ZaK c sec g).objs:=by
 rw[h.objs_are];exact List.mem_map.2 ⟨(i:Int),(ZhC c g).2 i (by omega) (by omega),rfl⟩
theorem LoOk.plc_at (h:LoOk c sec g) {i:Nat} (hi:i<g.nd.length):plc (ZaK c sec g).objs (atP c sec g i)=plc (loO c g) (i:Int):=by
 obtain⟨o1,o2⟩:=ZhC c g;obtain⟨r1,r2⟩:=Zco.1 o1;obtain⟨k,e1,e2⟩:=Proofs.YtknoncenblehkaaGreatDoor.plc_at (o2 i (by omega) (by omega));rw[e1,h.objs_are];refine ZjV (by rw[List.getElem?_map,e2];rfl) fun j y hj hy hne=>?_;rw[List.getElem?_map] at hy
 cases hq:(loO c g)[j]? with
 |none=>rw[hq] at hy;cases hy
 |some x=>
  rw[hq] at hy;have hx:=r1 x (Yn hq)
  obtain⟨n,rfl⟩: ∃n:Nat,x=n:=⟨x.toNat,by omega⟩
  have he:atP c sec g n=y:=by simpa using hy
  have:=h.inj (by omega) hi (he.trans hne)
  subst this
  have:=Zlm r2 hq e2
  omega
theorem LoOk.tgt (h:LoOk c sec g) {v:Sp} (hv:vOk g.nd.length v=true):Zat v.1 (Proofs.YtknoncenblehkaaGreatDoor.tgt (loPl c sec g) v)=true∧(v.1=2→ ∃i:Nat,i<g.nd.length∧v.2=i∧Proofs.YtknoncenblehkaaGreatDoor.tgt (loPl c sec g) v=atP c sec g i)∧(v.1≠2→Proofs.YtknoncenblehkaaGreatDoor.tgt (loPl c sec g) v=v.2):=by
 have hm:Zat v.1 v.2=true:=by
  unfold vOk at hv;rw[Bool.and_eq_true] at hv;exact hv.1
 by_cases e:v.1=2
 · obtain⟨b1,b2⟩:=Znb hv e
   obtain⟨i,hi⟩: ∃i:Nat,v.2=i:=⟨v.2.toNat,by omega⟩
   have ht:Proofs.YtknoncenblehkaaGreatDoor.tgt (loPl c sec g) v=atP c sec g i:=by unfold Proofs.YtknoncenblehkaaGreatDoor.tgt atP;rw[if_pos e,hi]
   obtain⟨-,z2⟩:=ZfM (c:=c) (sec:=sec) (Ya (l:=g.nd) (i:=i) (by omega));have hb:=h.at_in z2;refine⟨?_,fun _=>⟨i,by omega,hi,ht⟩,fun hn=>absurd e hn⟩;rw[ht,e,Zix,ZM];exact⟨hb.1,hb.2.2⟩
 · have ht:Proofs.YtknoncenblehkaaGreatDoor.tgt (loPl c sec g) v=v.2:=if_neg e
   exact⟨by rw[ht];exact hm,fun hn=>absurd hn e,fun _=>ht⟩
theorem LoOk.val (h:LoOk c sec g) {v:Sp} (hv:vOk g.nd.length v=true):dK (ZbK (loPl c sec g) v:Nat)=v.1∧dX (ZbK (loPl c sec g) v:Nat)=Proofs.YtknoncenblehkaaGreatDoor.tgt (loPl c sec g) v∧dE (ZbK (loPl c sec g) v:Nat)=0∧ZbK (loPl c sec g) v<18446744073709551616:=by
 obtain⟨t1, -, -⟩:=h.tgt hv;obtain⟨e1,e2,e3,e4,e5⟩:=ZnH t1
 have hc:((ZbK (loPl c sec g) v:Nat):Int)=ZcD v.1 (Proofs.YtknoncenblehkaaGreatDoor.tgt (loPl c sec g) v):=by unfold ZbK;omega
 rw[hc];exact⟨e1,e2,e3,by omega⟩
theorem LoOk.leads (h:LoOk c sec g) {v:Sp} (hv:vOk g.nd.length v=true):Proofs.YtknoncenblehkaaGreatDoor.leads (ZaK c sec g).objs (ZbK (loPl c sec g) v)=true:=by
 obtain⟨e1,e2,e3, -⟩:=h.val hv;obtain⟨-,t2, -⟩:=h.tgt hv;unfold Proofs.YtknoncenblehkaaGreatDoor.leads;rw[e1,e2,e3,Yl rfl,Bool.true_and];by_cases e:v.1=2
 · obtain⟨i,hi, -,ht⟩:=t2 e
   rw[ht,ZjM.2 (h.obj_at hi),Bool.or_true]
 · rw[Yk e];rfl
theorem LoOk.valL (h:LoOk c sec g) {v:Sp} (hv:vOk g.nd.length v=true):Proofs.YtknoncenblehkaaGreatDoor.valL (ZaK c sec g).objs (ZbK (loPl c sec g) v)=Zkd (loO c g) v:=by
 obtain⟨e1,e2, -, -⟩:=h.val hv;obtain⟨-,t2,t3⟩:=h.tgt hv;unfold Proofs.YtknoncenblehkaaGreatDoor.valL;rw[e1,e2];by_cases e:v.1=2
 · obtain⟨i,hi,hvi,ht⟩:=t2 e
   rw[ht,if_pos ⟨e,h.obj_at hi⟩,h.plc_at hi];unfold Zkd;rw[if_pos e,hvi]
 · rw[if_neg (fun hh=>e hh.1),t3 e]
   unfold Zkd;rw[if_neg e]
theorem LoOk.nd_ok (h:LoOk c sec g) {d:Nd} (hd:d∈g.nd):Zfo g.nd.length d=true:=(ZO.1 h.may).1 d hd
theorem LoOk.field (h:LoOk c sec g) {q:Int×Nd} (hq:q∈(loPl c sec g).zip g.nd) {k:Nat} {v:Sp} (hk:q.2.fs[k]? =some v):wd (loW c sec g) (q.1+1+(k:Nat)).toNat=ZbK (loPl c sec g) v:=by
 have hm:q.2∈g.nd:=(List.of_mem_zip (a:=q.1) (b:=q.2) hq).2;have e1:=(Zed (h.nd_ok hm)).1;have hl:=(Yj.1 hk).1;have h0:=(h.at_in hq).1;rw[show(q.1+1+(k:Nat)).toNat=q.1.toNat+(1+k) by omega,h.word hq (by omega),ZiG hk]
theorem LoOk.raw (h:LoOk c sec g) {q:Int×Nd} (hq:q∈(loPl c sec g).zip g.nd) {k:Nat} {x:Nat} (hk:q.2.rs[k]? =some x):wd (loW c sec g) (q.1+1+(q.2.fs.length:Nat)+(k:Nat)).toNat=x:=by
 have hm:q.2∈g.nd:=(List.of_mem_zip (a:=q.1) (b:=q.2) hq).2;have e1:=(Zed (h.nd_ok hm)).1;have hl:=(Yj.1 hk).1;have h0:=(h.at_in hq).1;rw[show(q.1+1+(q.2.fs.length:Nat)+(k:Nat)).toNat=q.1.toNat+(1+q.2.fs.length+k) by omega,h.word hq (by omega),Zli hk]
theorem LoOk.slot_len (h:LoOk c sec g):((Zec c sec g).length:Int)=c.slots:=by
 have h1:=h.slots;unfold Zec;rw[Yr,List.length_map,List.length_replicate];omega
theorem LoOk.slot_is (h:LoOk c sec g) {t:Slt} (ht:t∈Zec c sec g):(∃v∈g.rt,t=(true,0,ZbK (loPl c sec g) v))∨t=(false,0,0):=by
 unfold Zec at ht;rcases Yq.1 ht with ht|ht
 · obtain⟨v,hv,rfl⟩:=List.mem_map.1 ht
   exact .inl ⟨v,hv,rfl⟩
 · exact .inr (List.eq_of_mem_replicate ht)
theorem LoOk.idle (h:LoOk c sec g) {q:Int×Nd} (hq:q∈(loPl c sec g).zip g.nd):Proofs.YtknoncenblehkaaGreatDoor.idle (loW c sec g) q.1=true:=by
 obtain⟨-, -, -, -,r5,r6⟩:=h.head hq;unfold Proofs.YtknoncenblehkaaGreatDoor.idle;rw[r5,r6];rfl
theorem LoOk.r3 (h:LoOk c sec g):Proofs.YtknoncenblehkaaGreatDoor.r3 (ZaK c sec g)=true:=by
 have h1:=h.small;have h2:=Z3 (c:=c) h.szs;exact Yl (show loT c sec≤loT c sec+sSm c g.nd∧loT c sec+sSm c g.nd≤ZaX c sec from⟨by omega,h1⟩)
theorem LoOk.r4 (h:LoOk c sec g):wkE (ZaK c sec g).steps=0:=by
 rw[h.steps];exact(Zlz h.walk.2 0).2.1
theorem LoOk.r5 (h:LoOk c sec g):Proofs.YtknoncenblehkaaGreatDoor.r5 (ZaK c sec g)=true:=by
 unfold Proofs.YtknoncenblehkaaGreatDoor.r5;rw[h.smalls,List.all_eq_true];intro p hp;obtain⟨d,hd,hs⟩:=ZhY g.nd _ (loB c) hp;show Proofs.YtknoncenblehkaaGreatDoor.low c (loW c sec g) p=true;unfold Proofs.YtknoncenblehkaaGreatDoor.low;rw[h.idle hd,h.osz hd,Bool.true_and];exact hs
theorem LoOk.big1 (h:LoOk c sec g) {x:Sp} (hx:x∈tbL c (loB c) g.nd):Proofs.YtknoncenblehkaaGreatDoor.big c (loW c sec g) x=true:=by
 obtain⟨d,hd,hs,hz⟩:=Zg1 g.nd (loT c sec) _ hx;unfold Proofs.YtknoncenblehkaaGreatDoor.big
 have hns:ZX c x.2=false:=by rw[hz];exact hs
 rw[Yl (h.head hd).1,Yl ((h.osz hd).trans hz.symm),h.idle hd,hns];rfl
theorem LoOk.r6 (h:LoOk c sec g):Proofs.YtknoncenblehkaaGreatDoor.r6 (ZaK c sec g)=true:=by
 unfold Proofs.YtknoncenblehkaaGreatDoor.r6;rw[Bool.and_eq_true,List.all_eq_true];exact⟨Yl h.table,fun x hx=>h.big1 hx⟩
theorem Zly {x:Nat} (h:dE (x:Nat)=0):Zo dE (true,0,x)=true:=by
 unfold Zo;simp only[h];rfl
theorem LoOk.r7 (h:LoOk c sec g):Proofs.YtknoncenblehkaaGreatDoor.r7 (ZaK c sec g)=true:=by
 have hc:=h.ok;unfold Cf.ok at hc;refine Zit ⟨h.slot_len,show 1≤c.slots by omega,show c.slots≤1024 by omega⟩ fun j y _ hy=>?_;rcases h.slot_is (Yn hy) with⟨v,hv,e⟩|e
 · rw[e]
   exact Zly (h.val ((ZO.1 h.may).2 v hv)).2.2.1
 · rw[e]
   exact ZcA ⟨by decide,by decide⟩
theorem LoOk.r8 (h:LoOk c sec g):Proofs.YtknoncenblehkaaGreatDoor.r8 (ZaK c sec g)=true:=by
 unfold Proofs.YtknoncenblehkaaGreatDoor.r8;rw[List.all_eq_true];intro p hp;obtain⟨d,hd⟩:=h.obj_of hp;have hm:d∈g.nd:=(List.of_mem_zip hd).2;unfold Zcw;rw[List.all_eq_true];intro k hk;have hk':=List.mem_range.1 hk;have hF:ohF (ZaK c sec g).ws p=d.fs.length:=(h.head hd).2.2.1;rw[hF,Int.toNat_natCast] at hk';have hg:d.fs[k]? =some d.fs[k]:=Ya hk';have e:wd (ZaK c sec g).ws (p+1+(k:Nat)).toNat=ZbK (loPl c sec g) d.fs[k]:=h.field hd hg;rw[e];exact h.leads ((Zbe.1 (h.nd_ok hm)).2.2.2 _ (Yn hg))
theorem LoOk.r9 (h:LoOk c sec g):Proofs.YtknoncenblehkaaGreatDoor.r9 (ZaK c sec g)=true:=by
 unfold Proofs.YtknoncenblehkaaGreatDoor.r9;rw[List.all_eq_true];intro t ht;rcases h.slot_is ht with⟨v,hv,e⟩|e
 · rw[e]
   have:=h.leads ((ZO.1 h.may).2 v hv)
   simp only;rw[this];rfl
 · rw[e]
   rfl
theorem LoOk.may15 (h:LoOk c sec g):May15 (ZaK c sec g):=⟨h.ok,h.wlen,h.r3,h.r4,h.r5,h.r6,h.r7,h.r8,h.r9⟩
theorem ZhE {α β:Type} (l:List α) (f:Nat→β) (F:α→β) (n:Nat) (hn:n=l.length) (h: ∀(k:Nat) x,l[k]? =some x→f k=F x):(List.range n).map f=l.map F:=by
 apply List.ext_getElem?;intro j;rw[List.getElem?_map,List.getElem?_map];by_cases hj:j<l.length
 · have hg:l[j]? =some l[j]:=Ya hj
   rw[List.getElem?_range (by omega),hg];show some (f j)=some (F l[j]);rw[h j _ hg]
 · rw[List.getElem?_eq_none (by rw[List.length_range];omega),List.getElem?_eq_none (by omega)]
   rfl
theorem LoOk.liN (h:LoOk c sec g) {q:Int×Nd} (hq:q∈(loPl c sec g).zip g.nd):Proofs.YtknoncenblehkaaGreatDoor.liN (ZaK c sec g).objs (loW c sec g) q.1=ndT (loO c g) q.2:=by
 obtain⟨r1,r2,r3,r4, -, -⟩:=h.head hq;have hm:q.2∈g.nd:=(List.of_mem_zip (a:=q.1) (b:=q.2) hq).2;unfold Proofs.YtknoncenblehkaaGreatDoor.liN ndT ZpS ZpT Zka;rw[r2,r3,r4,Int.toNat_natCast,Int.toNat_natCast]
 have e1:=ZhE q.2.fs (fun k:Nat=>Proofs.YtknoncenblehkaaGreatDoor.valL (ZaK c sec g).objs (wd (loW c sec g) (q.1+1+(k:Nat)).toNat)) (Zkd (loO c g)) _ rfl fun k v hk=>by
  rw[h.field hq hk];exact h.valL ((Zbe.1 (h.nd_ok hm)).2.2.2 v (Yn hk))
 have e2:=ZhE q.2.rs (fun k:Nat=>wd (loW c sec g) (q.1+1+(q.2.fs.length:Nat)+(k:Nat)).toNat) id _ rfl fun k x hk=>h.raw hq hk;rw[e1,e2,List.map_id]
theorem LoOk.used (h:LoOk c sec g):ZnX (Zec c sec g)=g.rt.map fun v=>((true,0,ZbK (loPl c sec g) v):Slt):=by
 unfold ZnX Zec;rw[List.filter_append]
 have e1:(g.rt.map fun v=>((true,0,ZbK (loPl c sec g) v):Slt)).filter (·.1)=g.rt.map fun v=>((true,0,ZbK (loPl c sec g) v):Slt):=by
  rw[List.filter_eq_self];intro t ht;obtain⟨v, -,rfl⟩:=List.mem_map.1 ht;rfl
 have e2:(List.replicate (c.slots.toNat - g.rt.length) ((false,0,0):Slt)).filter (·.1)=[]:=by
  rw[List.filter_eq_nil_iff];intro t ht;rw[List.eq_of_mem_replicate ht];decide
 rw[e1,e2,List.append_nil]
theorem LoOk.lift (h:LoOk c sec g):ZbW (ZaK c sec g)=0∧rnE g (loO c g)=0∧liG (ZaK c sec g)=rnG g (loO c g)∧(ZaK c sec g).objs=(loO c g).map (atP c sec g):=by
 have h0:=Zh2.2 h.may15;have hr:=Zoh.2 (ZpF (c:=c) h.may);refine⟨h0,hr,?_,h.objs_are⟩;rw[ZnJ h0];unfold rnG;rw[if_pos hr];obtain⟨r1, -⟩:=Zco.1 (ZhC c g).1
 have e1:(ZaK c sec g).objs.map (Proofs.YtknoncenblehkaaGreatDoor.liN (ZaK c sec g).objs (ZaK c sec g).ws)=(Zoj g (loO c g)).map (ndT (loO c g)):=by
  unfold Zoj;rw[h.objs_are,List.map_map,List.map_map, ← h.objs_are];refine List.map_congr_left fun i hi=>?_;have hb:=r1 i hi
  obtain⟨n,rfl⟩: ∃n:Nat,i=n:=⟨i.toNat,by omega⟩
  have hg:g.nd[n]? =some g.nd[n]:=Ya (by omega)
  have:=h.liN (ZfM (c:=c) (sec:=sec) hg).2
  show Proofs.YtknoncenblehkaaGreatDoor.liN _ (loW c sec g) (atP c sec g n)=ndT _ (g.nd.getD ((n:Int)).toNat ZpO);rw[this,Int.toNat_natCast,Ym,hg];rfl
 have e2:Zos (ZaK c sec g).objs (ZaK c sec g).sl=Zka (loO c g) g.rt:=by
  show Zos _ (Zec c sec g)=_;unfold Zos Zka;rw[h.used,List.map_map];exact List.map_congr_left fun v hv=>h.valL ((ZO.1 h.may).2 v hv)
 rw[e1,e2]
end
end Go.Proofs.YtknoncenblehkaaGreatDoor
