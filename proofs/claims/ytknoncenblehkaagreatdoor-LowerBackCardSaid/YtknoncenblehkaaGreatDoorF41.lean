/- A graph as a heap, lifted, and lowered again: the same heap; -/
import Derived.Test.YtknoncenblehkaaGreatDoorF40
set_option maxRecDepth 100000
set_option maxHeartbeats 32000000
set_option linter.unusedSimpArgs false
set_option linter.unusedVariables false
namespace Go.Proofs.YtknoncenblehkaaGreatDoor
open Go.RowKit
theorem Zif {n:Nat} {o:List Int} (h:ZbF n o=true):o.length≤n:=by
 obtain⟨h1,h2⟩:=Zr.1 h
 have hnd:(o.map Int.toNat).Nodup:=by
  rw[List.Nodup,List.pairwise_map];refine List.Pairwise.imp_of_mem ?_ h2;intro a b ha hb hne e
  have:=h1 a ha
  have:=h1 b hb
  exact hne (by omega)
 have:=Zep (m:=List.range n) hnd fun x hx=>by
  obtain⟨y,hy,rfl⟩:=List.mem_map.1 hx
  have:=h1 y hy
  exact List.mem_range.2 (by omega)
 simpa using this
section
variable {c:Cf} {sec:Bool} {g:Gr}
theorem LoOk.paired (h:LoOk c sec g) (hn:g.nd.length≤1000000) {i:Nat} (hi:i<g.nd.length): ∃k,(toL g (rnG g (loO c g)))[i]? =some k∧(k= -1∨ ∃j:Nat,k=j∧(Zaq c sec g).objs[j]? =some (atP c sec g i)):=by
 have hr:=Zpq (c:=c) h.may
 have hlen:(loO c g).length≤1000000:=by
  have:=Zif hr.ord
  omega
 have hg:rnG g (loO c g)=⟨(Zai g (loO c g)).map (ndT (loO c g)),ZO (loO c g) g.rt⟩:=if_pos (Zbr.2 hr)
 have hb:ZA (rnG g (loO c g))=true:=by rw[hg];exact Zjp hr hlen
 have I:=Zq2 hr;rw[← hg] at I;have hp:=Zf6 h.may hb I;obtain⟨k,e1,e2⟩:=ZuR h.may hp.len hi;refine⟨k,e1,?_⟩
 rcases e2 with⟨-,j,f1,f2⟩|⟨-,e⟩
 · obtain⟨m,q1,q2⟩:=hp.at_ f1 f2
   refine .inr ⟨m,q2,?_⟩;rw[h.objs_are,List.getElem?_map,q1];rfl
 · exact .inl e
theorem Zhr (c:Cf): ∀(l m:List Nd),sSm c (l++m)=sSm c l+sSm c m
 |[],m=>by simp[sSm]
 |d::l,m=>by simp only[List.cons_append,sSm,Zhr c l m];omega
theorem ZhM (c:Cf): ∀(l m:List Nd),sBg c (l++m)=sBg c l+sBg c m
 |[],m=>by simp[sBg]
 |d::l,m=>by simp only[List.cons_append,sBg,ZhM c l m];omega
theorem ZeC (c:Cf): ∀(l:List Nd),sSm c (l.filter (ZU c))=sSm c l∧sSm c (l.filter fun d=>!ZU c d)=0∧sBg c (l.filter (ZU c))=0∧sBg c (l.filter fun d=>!ZU c d)=sBg c l
 |[]=>⟨rfl,rfl,rfl,rfl⟩
 |d::l=>by
  obtain⟨a1,a2,a3,a4⟩:=ZeC c l
  cases hd:ZU c d <;> simp[sSm,sBg,List.filter_cons,hd,a1,a2,a3,a4]
theorem ZkG (c:Cf) {f:Nd→Nd} (hf: ∀d,ndSz (f d)=ndSz d): ∀(l:List Nd),sSm c (l.map f)=sSm c l∧sBg c (l.map f)=sBg c l
 |[]=>⟨rfl,rfl⟩
 |d::l=>by
  obtain⟨a1,a2⟩:=ZkG c hf l
  have e:ZU c (f d)=ZU c d:=by unfold ZU;rw[hf]
  simp[sSm,sBg,e,hf,a1,a2]
theorem Zku (c:Cf) {f:Nd→Nd} (hf: ∀d,ndSz (f d)=ndSz d): ∀(l:List Nd) (t b:Int),tbL c b (l.map f)=tbL c b l∧plL c t b (l.map f)=plL c t b l∧smL c t (l.map f)=smL c t l
 |[],_,_=>⟨rfl,rfl,rfl⟩
 |d::l,t,b=>by
  have e:ZU c (f d)=ZU c d:=by unfold ZU;rw[hf]
  have i1: ∀b,tbL c b (l.map f)=tbL c b l:=fun b=>(Zku c hf l 0 b).1;have i2: ∀t b,plL c t b (l.map f)=plL c t b l:=fun t b=>(Zku c hf l t b).2.1;have i3: ∀t,smL c t (l.map f)=smL c t l:=fun t=>(Zku c hf l t 0).2.2
  cases hd:ZU c d <;> simp[tbL,plL,smL,e,hf,hd,i1,i2,i3]
theorem ZiE (c:Cf): ∀(l m:List Nd) (t b:Int),plL c t b (l.filter (ZU c)++m)=smL c t l++plL c (t+sSm c l) b m∧tbL c b (l.filter (ZU c)++m)=tbL c b m
 |[],m,t,b=>by simp[smL,sSm]
 |d::l,m,t,b=>by
  have ih: ∀t b,plL c t b (l.filter (ZU c)++m)=smL c t l++plL c (t+sSm c l) b m:=fun t b=>(ZiE c l m t b).1;have i2: ∀b,tbL c b (l.filter (ZU c)++m)=tbL c b m:=fun b=>(ZiE c l m 0 b).2
  cases hd:ZU c d with
  |true=>simp[List.filter_cons,hd,plL,tbL,smL,sSm,ih,i2,Int.add_assoc]
  |false=>simp[List.filter_cons,hd,plL,tbL,smL,sSm,ih,i2]
theorem ZiW (c:Cf): ∀(l:List Nd) (t b:Int),plL c t b (l.filter fun d=>!ZU c d)=(tbL c b l).map (·.1)∧tbL c b (l.filter fun d=>!ZU c d)=tbL c b l
 |[],_,_=>⟨rfl,rfl⟩
 |d::l,t,b=>by
  have ih: ∀t b,plL c t b (l.filter fun d=>!ZU c d)=(tbL c b l).map (·.1):=fun t b=>(ZiW c l t b).1;have i2: ∀b,tbL c b (l.filter fun d=>!ZU c d)=tbL c b l:=fun b=>(ZiW c l 0 b).2
  cases hd:ZU c d with
  |true=>simp[List.filter_cons,hd,plL,tbL,ih,i2]
  |false=>simp[List.filter_cons,hd,plL,tbL,ih,i2]
theorem ZfI (c:Cf) (N:List Nd): ∀(ds:List Nd) (k:Nat),N.drop k=ds→(smI c k ds).map (fun i=>N.getD i.toNat noNd)=ds.filter (ZU c)∧(bgI c k ds).map (fun i=>N.getD i.toNat noNd)=ds.filter fun d=>!ZU c d
 |[],_,_=>⟨rfl,rfl⟩
 |d::l,k,h=>by
  obtain⟨h1,h2⟩:=Zi2 h;obtain⟨i1,i2⟩:=ZfI c N l (k+1) h2
  have e:N.getD k noNd=d:=by rw[Yn,h1];rfl
  cases hd:ZU c d with
  |true=>
   have e6:smI c k (d::l)=(k:Int)::smI c (k+1) l:=by simp[smI,hd]
   have e7:bgI c k (d::l)=bgI c (k+1) l:=by simp[bgI,hd]
   rw[e6,e7,List.map_cons,i1,i2,Int.toNat_natCast,e];simp[List.filter_cons,hd]
  |false=>
   have e6:smI c k (d::l)=smI c (k+1) l:=by simp[smI,hd]
   have e7:bgI c k (d::l)=(k:Int)::bgI c (k+1) l:=by simp[bgI,hd]
   rw[e6,e7,List.map_cons,i1,i2,Int.toNat_natCast,e];simp[List.filter_cons,hd]
theorem Zs1 (c:Cf) (g:Gr):Zai g (loO c g)=g.nd.filter (ZU c)++g.nd.filter fun d=>!ZU c d:=by
 obtain⟨e1,e2⟩:=ZfI c g.nd g.nd 0 (List.drop_zero ..);unfold Zai loO;rw[List.map_append,e1,e2]
theorem Zrg (o:List Int) (d:Nd):ndSz (ndT o d)=ndSz d:=by unfold ndSz ZkO ndT ZO;simp
theorem LoOk.pl_again (h:LoOk c sec g):loPl c sec (rnG g (loO c g))=(Zaq c sec g).objs∧sSm c (rnG g (loO c g)).nd=sSm c g.nd∧sBg c (rnG g (loO c g)).nd=sBg c g.nd∧tbL c (loB c) (rnG g (loO c g)).nd=tbL c (loB c) g.nd:=by
 have hg:rnG g (loO c g)=⟨(Zai g (loO c g)).map (ndT (loO c g)),ZO (loO c g) g.rt⟩:=if_pos (Zbr.2 (Zpq (c:=c) h.may));obtain⟨a1,a2⟩:=ZkG c (Zrg (loO c g)) (Zai g (loO c g));obtain⟨b1,b2, -⟩:=Zku c (Zrg (loO c g)) (Zai g (loO c g)) (loT c sec) (loB c);obtain⟨f1,f2,f3,f4⟩:=ZeC c g.nd;obtain⟨p1,p2⟩:=ZiE c g.nd (g.nd.filter fun d=>!ZU c d) (loT c sec) (loB c);obtain⟨q1,q2⟩:=ZiW c g.nd (loT c sec+sSm c g.nd) (loB c);have hp:=Zs1 c g;unfold loPl;rw[hg];simp only;rw[a1,a2,b1,b2,hp,Zhr,ZhM,f1,f2,f3,f4,p1,p2,q1,q2,h.objs];exact⟨rfl,by omega,by omega,rfl⟩
theorem LoOk.val_again (h:LoOk c sec g) {v:Sp} (hv:vOk g.nd.length v=true):ZbY (Zaq c sec g).objs (Z9 (loO c g) v)=ZbY (loPl c sec g) v:=by
 obtain⟨-,t2,t3⟩:=h.tgt hv;by_cases e:v.1=2
 · obtain⟨i,hi,hvi,ht⟩:=t2 e
   have hm:=(ZeE c g).2 (i:Int) (by omega) (by omega);obtain⟨k,e1,e2⟩:=Proofs.YtknoncenblehkaaGreatDoor.plc_at hm
   have e3:(Zaq c sec g).objs[k]? =some (atP c sec g i):=by rw[h.objs_are,List.getElem?_map,e2];rfl
   unfold ZbY;rw[ht];unfold Z9;rw[if_pos e,hvi,e1];unfold Proofs.YtknoncenblehkaaGreatDoor.tgt;simp only[if_true];rw[Int.toNat_natCast,Yn,e3,e];rfl
 · unfold ZbY
   rw[t3 e];unfold Z9;rw[if_neg e];unfold Proofs.YtknoncenblehkaaGreatDoor.tgt;rw[if_neg e]
theorem LoOk.row_again (h:LoOk c sec g) {d:Nd} (hd:d∈g.nd):rowW (Zaq c sec g).objs (ndT (loO c g) d)=rowW (loPl c sec g) d:=by
 unfold rowW hdW ndT ZO;simp only[List.length_map,List.map_map];rw[List.map_congr_left (f:=ZbY (Zaq c sec g).objs ∘ Z9 (loO c g)) (g:=ZbY (loPl c sec g)) fun v hv=>h.val_again ((ZV.1 (h.nd_ok hd)).2.2.2 v hv)]
theorem Zgf {pl:List Int} {ds:List Nd} (hl:pl.length=ds.length) {x:Nat×List Nat}:x∈rowsOf pl ds↔ ∃(i:Nat) (p:Int) (d:Nd),pl[i]? =some p∧ds[i]? =some d∧x=(p.toNat,rowW pl d):=by
 unfold rowsOf;constructor
 · intro hx
   obtain⟨q,hq,rfl⟩:=List.mem_map.1 hx;obtain⟨i,hi⟩:=List.getElem?_of_mem hq;obtain⟨h1,h2⟩:=List.getElem?_zip_eq_some.1 hi;exact⟨i,q.1,q.2,h1,h2,rfl⟩
 · rintro⟨i,p,d,h1,h2,rfl⟩
   exact List.mem_map.2 ⟨(p,d),Yo (i:=i) (List.getElem?_zip_eq_some.2 ⟨h1,h2⟩),rfl⟩
theorem Zl3 {ps qs:List (Nat×List Nat)} {l:List Nat} (h1:InW l.length ps) (h2:InW l.length qs) (a1:Zie ps) (a2:Zie qs) (hm: ∀x,x∈ps↔x∈qs):Zby ps l=Zby qs l:=by
 refine Zmo (by rw[Zb7 _ _ h1,Zb7 _ _ h2]) fun y _=>?_;obtain⟨b1,b2⟩:=Zc9 y ps l h1 a1;obtain⟨c1,c2⟩:=Zc9 y qs l h2 a2;by_cases hq: ∃x∈ps,x.1≤y∧y<x.1+x.2.length
 · obtain⟨x,hx,k1,k2⟩:=hq
   rw[b1 x hx k1 k2,c1 x ((hm x).1 hx) k1 k2]
 · rw[b2 fun x hx hh=>hq ⟨x,hx,hh⟩,c2 fun x hx hh=>hq ⟨x,(hm x).2 hx,hh⟩]
theorem LoOk.again (h:LoOk c sec g) (hn:g.nd.length≤1000000):LoOk c sec (rnG g (loO c g))∧Zaq c sec (rnG g (loO c g))=Zaq c sec g:=by
 have hr:=Zpq (c:=c) h.may;obtain⟨p1,p2,p3,p4⟩:=h.pl_again;have hg:rnG g (loO c g)=⟨(Zai g (loO c g)).map (ndT (loO c g)),ZO (loO c g) g.rt⟩:=if_pos (Zbr.2 hr)
 have hlen:(loO c g).length≤1000000:=by
  have:=Zif hr.ord
  omega
 have hmay:ZA (rnG g (loO c g))=true:=by rw[hg];exact Zjp hr hlen
 have hrt:(rnG g (loO c g)).rt=ZO (loO c g) g.rt:=by rw[hg]
 have hnd:(rnG g (loO c g)).nd=(Zai g (loO c g)).map (ndT (loO c g)):=by rw[hg]
 have h2:LoOk c sec (rnG g (loO c g)):=⟨h.ok,hmay,by rw[hrt];unfold ZO;rw[List.length_map];exact h.slots,by rw[p2];exact h.small,by rw[p3];exact h.big⟩
 refine⟨h2,?_⟩;have hl1:(loPl c sec g).length=g.nd.length:=ZbJ ..
 have hl2:(Zaq c sec g).objs.length=(rnG g (loO c g)).nd.length:=by rw[← p1];exact ZbJ ..
 obtain⟨r1, -⟩:=Zr.1 (ZeE c g).1;have key: ∀(i:Nat) (d:Nd),g.nd[i]? =some d→(i:Int)∈loO c g:=fun i d hd=>(ZeE c g).2 i (by omega) (by have:=(Yk.1 hd).1;omega)
 have hw:loW c sec (rnG g (loO c g))=loW c sec g:=by
  have i2:=h2.inW;have a2:=h2.apart;unfold loW;rw[p1] at i2 a2 ⊢;refine Zl3 i2 h.inW a2 h.apart fun x=>?_;rw[Zgf hl2,Zgf hl1];constructor
  · rintro⟨j,p,d,e1,e2,rfl⟩
    rw[h.objs_are,List.getElem?_map] at e1;rw[hnd,List.getElem?_map] at e2;unfold Zai at e2;rw[List.getElem?_map] at e2
    cases hj:(loO c g)[j]? with
    |none=>rw[hj] at e1;cases e1
    |some z=>
     rw[hj] at e1 e2;have hz:=r1 z (Yo hj)
     obtain⟨n,rfl⟩: ∃n:Nat,z=n:=⟨z.toNat,by omega⟩
     have hgn:g.nd[n]? =some g.nd[n]:=Ya (by omega)
     obtain rfl:atP c sec g n=p:=by simpa using e1
     have e2':ndT (loO c g) g.nd[n]=d:=by
      have:g.nd.getD ((n:Int)).toNat noNd=g.nd[n]:=by rw[Int.toNat_natCast,Yn,hgn];rfl
      simp only[Option.map_some,this,Option.some.injEq] at e2;exact e2
     refine⟨n,_,_,(ZdG (c:=c) (sec:=sec) hgn).1,hgn,?_⟩;rw[← e2',h.row_again (Yo hgn)]
  · rintro⟨i,p,d,e1,e2,rfl⟩
    obtain⟨j,hj⟩:=List.getElem?_of_mem (key i d e2);have hz:=(ZdG (c:=c) (sec:=sec) e2).1
    obtain rfl:atP c sec g i=p:=by rw[hz] at e1;exact Yp e1
    refine⟨j,atP c sec g i,ndT (loO c g) d,?_,?_,?_⟩
    · rw[h.objs_are,List.getElem?_map,hj];rfl
    · rw[hnd,List.getElem?_map]
      unfold Zai;rw[List.getElem?_map,hj];show some (ndT _ (g.nd.getD ((i:Int)).toNat noNd))=_;rw[Int.toNat_natCast,Yn,e2];rfl
    · rw[h.row_again (Yo e2)]
 have hs:ZgU c sec (rnG g (loO c g))=ZgU c sec g:=by
  unfold ZgU;rw[p1,hrt];unfold ZO;rw[List.map_map,List.length_map]
  congr 1
  exact List.map_congr_left fun v hv=>by
   show((true,0,ZbY (Zaq c sec g).objs (Z9 (loO c g) v)):Slt)=_;rw[h.val_again ((Zv.1 h.may).2 v hv)]
 unfold Zaq;rw[hw,hs,p2,p3,p4]
end
end Go.Proofs.YtknoncenblehkaaGreatDoor
