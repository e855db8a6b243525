/- A graph as a heap, lifted, and lowered again: the same heap; -/
import Derived.Test.YtknoncenblehkaaGreatDoorE34
set_option maxRecDepth 100000
set_option maxHeartbeats 32000000
set_option linter.unusedSimpArgs false
set_option linter.unusedVariables false
namespace Go.Proofs.YtknoncenblehkaaGreatDoor
open Go.RowKit
theorem ZkK {n:Nat} {o:List Int} (h:Zhm n o=true):o.length≤n:=by
 obtain⟨h1,h2⟩:=ZG.1 h
 have hnd:(o.map Int.toNat).Nodup:=by
  rw[List.Nodup,List.pairwise_map];refine List.Pairwise.imp_of_mem ?_ h2;intro a b ha hb hne e
  have:=h1 a ha
  have:=h1 b hb
  exact hne (by omega)
 have:=ZdA (m:=List.range n) hnd fun x hx=>by
  obtain⟨y,hy,rfl⟩:=List.mem_map.1 hx
  have:=h1 y hy
  exact List.mem_range.2 (by omega)
 simpa using this
section
variable {c:Cf} {sec:Bool} {g:Gr}
theorem ZfJ (c:Cf): ∀(l m:List Nd),sSm c (l++m)=sSm c l+sSm c m
 |[],m=>by simp[sSm]
 |d::l,m=>by simp only[List.cons_append,sSm,ZfJ c l m];omega
theorem Zf2 (c:Cf): ∀(l m:List Nd),sBg c (l++m)=sBg c l+sBg c m
 |[],m=>by simp[sBg]
 |d::l,m=>by simp only[List.cons_append,sBg,Zf2 c l m];omega
theorem Zdh (c:Cf): ∀(l:List Nd),sSm c (l.filter (ZK c))=sSm c l∧sSm c (l.filter fun d=>!ZK c d)=0∧sBg c (l.filter (ZK c))=0∧sBg c (l.filter fun d=>!ZK c d)=sBg c l
 |[]=>⟨rfl,rfl,rfl,rfl⟩
 |d::l=>by
  obtain⟨a1,a2,a3,a4⟩:=Zdh c l
  cases hd:ZK c d <;> simp[sSm,sBg,List.filter_cons,hd,a1,a2,a3,a4]
theorem ZhH (c:Cf) {f:Nd→Nd} (hf: ∀d,ndSz (f d)=ndSz d): ∀(l:List Nd),sSm c (l.map f)=sSm c l∧sBg c (l.map f)=sBg c l
 |[]=>⟨rfl,rfl⟩
 |d::l=>by
  obtain⟨a1,a2⟩:=ZhH c hf l
  have e:ZK c (f d)=ZK c d:=by unfold ZK;rw[hf]
  simp[sSm,sBg,e,hf,a1,a2]
theorem Zin (c:Cf) {f:Nd→Nd} (hf: ∀d,ndSz (f d)=ndSz d): ∀(l:List Nd) (t b:Int),tbL c b (l.map f)=tbL c b l∧plL c t b (l.map f)=plL c t b l∧smL c t (l.map f)=smL c t l
 |[],_,_=>⟨rfl,rfl,rfl⟩
 |d::l,t,b=>by
  have e:ZK c (f d)=ZK c d:=by unfold ZK;rw[hf]
  have i1: ∀b,tbL c b (l.map f)=tbL c b l:=fun b=>(Zin c hf l 0 b).1;have i2: ∀t b,plL c t b (l.map f)=plL c t b l:=fun t b=>(Zin c hf l t b).2.1;have i3: ∀t,smL c t (l.map f)=smL c t l:=fun t=>(Zin c hf l t 0).2.2
  cases hd:ZK c d <;> simp[tbL,plL,smL,e,hf,hd,i1,i2,i3]
theorem Zgv (c:Cf): ∀(l m:List Nd) (t b:Int),plL c t b (l.filter (ZK c)++m)=smL c t l++plL c (t+sSm c l) b m∧tbL c b (l.filter (ZK c)++m)=tbL c b m
 |[],m,t,b=>by simp[smL,sSm]
 |d::l,m,t,b=>by
  have ih: ∀t b,plL c t b (l.filter (ZK c)++m)=smL c t l++plL c (t+sSm c l) b m:=fun t b=>(Zgv c l m t b).1;have i2: ∀b,tbL c b (l.filter (ZK c)++m)=tbL c b m:=fun b=>(Zgv c l m 0 b).2
  cases hd:ZK c d with
  |true=>simp[List.filter_cons,hd,plL,tbL,smL,sSm,ih,i2,Int.add_assoc]
  |false=>simp[List.filter_cons,hd,plL,tbL,smL,sSm,ih,i2]
theorem Zhl (c:Cf): ∀(l:List Nd) (t b:Int),plL c t b (l.filter fun d=>!ZK c d)=(tbL c b l).map (·.1)∧tbL c b (l.filter fun d=>!ZK c d)=tbL c b l
 |[],_,_=>⟨rfl,rfl⟩
 |d::l,t,b=>by
  have ih: ∀t b,plL c t b (l.filter fun d=>!ZK c d)=(tbL c b l).map (·.1):=fun t b=>(Zhl c l t b).1;have i2: ∀b,tbL c b (l.filter fun d=>!ZK c d)=tbL c b l:=fun b=>(Zhl c l 0 b).2
  cases hd:ZK c d with
  |true=>simp[List.filter_cons,hd,plL,tbL,ih,i2]
  |false=>simp[List.filter_cons,hd,plL,tbL,ih,i2]
theorem ZeA (c:Cf) (N:List Nd): ∀(ds:List Nd) (k:Nat),N.drop k=ds→(smI c k ds).map (fun i=>N.getD i.toNat noNd)=ds.filter (ZK c)∧(bgI c k ds).map (fun i=>N.getD i.toNat noNd)=ds.filter fun d=>!ZK c d
 |[],_,_=>⟨rfl,rfl⟩
 |d::l,k,h=>by
  obtain⟨h1,h2⟩:=Zhp h;obtain⟨i1,i2⟩:=ZeA c N l (k+1) h2
  have e:N.getD k noNd=d:=by rw[Yn,h1];rfl
  cases hd:ZK c d with
  |true=>
   have e6:smI c k (d::l)=(k:Int)::smI c (k+1) l:=by simp[smI,hd]
   have e7:bgI c k (d::l)=bgI c (k+1) l:=by simp[bgI,hd]
   rw[e6,e7,List.map_cons,i1,i2,Int.toNat_natCast,e];simp[List.filter_cons,hd]
  |false=>
   have e6:smI c k (d::l)=smI c (k+1) l:=by simp[smI,hd]
   have e7:bgI c k (d::l)=(k:Int)::bgI c (k+1) l:=by simp[bgI,hd]
   rw[e6,e7,List.map_cons,i1,i2,Int.toNat_natCast,e];simp[List.filter_cons,hd]
theorem Zow (c:Cf) (g:Gr):ZbB g (loO c g)=g.nd.filter (ZK c)++g.nd.filter fun d=>!ZK c d:=by
 obtain⟨e1,e2⟩:=ZeA c g.nd g.nd 0 (List.drop_zero ..);unfold ZbB loO;rw[List.map_append,e1,e2]
theorem Zny (o:List Int) (d:Nd):ndSz (ndT o d)=ndSz d:=by unfold ndSz ZiX ndT Z5;simp
theorem LoOk.pl_again (h:LoOk c sec g):loPl c sec (rnG g (loO c g))=(Z7 c sec g).objs∧sSm c (rnG g (loO c g)).nd=sSm c g.nd∧sBg c (rnG g (loO c g)).nd=sBg c g.nd∧tbL c (loB c) (rnG g (loO c g)).nd=tbL c (loB c) g.nd:=by
 have hg:rnG g (loO c g)=⟨(ZbB g (loO c g)).map (ndT (loO c g)),Z5 (loO c g) g.rt⟩:=if_pos (ZbV.2 (ZnU (c:=c) h.may));obtain⟨a1,a2⟩:=ZhH c (Zny (loO c g)) (ZbB g (loO c g));obtain⟨b1,b2, -⟩:=Zin c (Zny (loO c g)) (ZbB g (loO c g)) (loT c sec) (loB c);obtain⟨f1,f2,f3,f4⟩:=Zdh c g.nd;obtain⟨p1,p2⟩:=Zgv c g.nd (g.nd.filter fun d=>!ZK c d) (loT c sec) (loB c);obtain⟨q1,q2⟩:=Zhl c g.nd (loT c sec+sSm c g.nd) (loB c);have hp:=Zow c g;unfold loPl;rw[hg];simp only;rw[a1,a2,b1,b2,hp,ZfJ,Zf2,f1,f2,f3,f4,p1,p2,q1,q2,h.objs];exact⟨rfl,by omega,by omega,rfl⟩
theorem LoOk.val_again (h:LoOk c sec g) {v:Sp} (hv:vOk g.nd.length v=true):Zbk (Z7 c sec g).objs (Za4 (loO c g) v)=Zbk (loPl c sec g) v:=by
 obtain⟨-,t2,t3⟩:=h.tgt hv;by_cases e:v.1=2
 · obtain⟨i,hi,hvi,ht⟩:=t2 e
   have hm:=(Zdq c g).2 (i:Int) (by omega) (by omega);obtain⟨k,e1,e2⟩:=Proofs.YtknoncenblehkaaGreatDoor.plc_at hm
   have e3:(Z7 c sec g).objs[k]? =some (atP c sec g i):=by rw[h.objs_are,List.getElem?_map,e2];rfl
   unfold Zbk;rw[ht];unfold Za4;rw[if_pos e,hvi,e1];unfold Proofs.YtknoncenblehkaaGreatDoor.tgt;simp only[if_true];rw[Int.toNat_natCast,Yn,e3,e];rfl
 · unfold Zbk
   rw[t3 e];unfold Za4;rw[if_neg e];unfold Proofs.YtknoncenblehkaaGreatDoor.tgt;rw[if_neg e]
theorem LoOk.row_again (h:LoOk c sec g) {d:Nd} (hd:d∈g.nd):rowW (Z7 c sec g).objs (ndT (loO c g) d)=rowW (loPl c sec g) d:=by
 unfold rowW hdW ndT Z5;simp only[List.length_map,List.map_map];rw[List.map_congr_left (f:=Zbk (Z7 c sec g).objs ∘ Za4 (loO c g)) (g:=Zbk (loPl c sec g)) fun v hv=>h.val_again ((ZS.1 (h.nd_ok hd)).2.2.2 v hv)]
theorem Ze7 {pl:List Int} {ds:List Nd} (hl:pl.length=ds.length) {x:Nat×List Nat}:x∈rowsOf pl ds↔ ∃(i:Nat) (p:Int) (d:Nd),pl[i]? =some p∧ds[i]? =some d∧x=(p.toNat,rowW pl d):=by
 unfold rowsOf;constructor
 · intro hx
   obtain⟨q,hq,rfl⟩:=List.mem_map.1 hx;obtain⟨i,hi⟩:=List.getElem?_of_mem hq;obtain⟨h1,h2⟩:=List.getElem?_zip_eq_some.1 hi;exact⟨i,q.1,q.2,h1,h2,rfl⟩
 · rintro⟨i,p,d,h1,h2,rfl⟩
   exact List.mem_map.2 ⟨(p,d),Yo (i:=i) (List.getElem?_zip_eq_some.2 ⟨h1,h2⟩),rfl⟩
theorem Ziv {ps qs:List (Nat×List Nat)} {l:List Nat} (h1:InW l.length ps) (h2:InW l.length qs) (a1:Zf9 ps) (a2:Zf9 qs) (hm: ∀x,x∈ps↔x∈qs):ZaZ ps l=ZaZ qs l:=by
 refine ZlI (by rw[Zbj _ _ h1,Zbj _ _ h2]) fun y _=>?_;obtain⟨b1,b2⟩:=Zb1 y ps l h1 a1;obtain⟨c1,c2⟩:=Zb1 y qs l h2 a2;by_cases hq: ∃x∈ps,x.1≤y∧y<x.1+x.2.length
 · obtain⟨x,hx,k1,k2⟩:=hq
   rw[b1 x hx k1 k2,c1 x ((hm x).1 hx) k1 k2]
 · rw[b2 fun x hx hh=>hq ⟨x,hx,hh⟩,c2 fun x hx hh=>hq ⟨x,(hm x).2 hx,hh⟩]
theorem LoOk.again (h:LoOk c sec g) (hn:g.nd.length≤1000000):LoOk c sec (rnG g (loO c g))∧Z7 c sec (rnG g (loO c g))=Z7 c sec g:=by
 have hr:=ZnU (c:=c) h.may;obtain⟨p1,p2,p3,p4⟩:=h.pl_again;have hg:rnG g (loO c g)=⟨(ZbB g (loO c g)).map (ndT (loO c g)),Z5 (loO c g) g.rt⟩:=if_pos (ZbV.2 hr)
 have hlen:(loO c g).length≤1000000:=by
  have:=ZkK hr.ord
  omega
 have hmay:ZP (rnG g (loO c g))=true:=by rw[hg];exact ZjM hr hlen
 have hrt:(rnG g (loO c g)).rt=Z5 (loO c g) g.rt:=by rw[hg]
 have hnd:(rnG g (loO c g)).nd=(ZbB g (loO c g)).map (ndT (loO c g)):=by rw[hg]
 have h2:LoOk c sec (rnG g (loO c g)):=⟨h.ok,hmay,by rw[hrt];unfold Z5;rw[List.length_map];exact h.slots,by rw[p2];exact h.small,by rw[p3];exact h.big⟩
 refine⟨h2,?_⟩;have hl1:(loPl c sec g).length=g.nd.length:=Za7 ..
 have hl2:(Z7 c sec g).objs.length=(rnG g (loO c g)).nd.length:=by rw[← p1];exact Za7 ..
 obtain⟨r1, -⟩:=ZG.1 (Zdq c g).1;have key: ∀(i:Nat) (d:Nd),g.nd[i]? =some d→(i:Int)∈loO c g:=fun i d hd=>(Zdq c g).2 i (by omega) (by have:=(Yk.1 hd).1;omega)
 have hw:loW c sec (rnG g (loO c g))=loW c sec g:=by
  have i2:=h2.inW;have a2:=h2.apart;unfold loW;rw[p1] at i2 a2 ⊢;refine Ziv i2 h.inW a2 h.apart fun x=>?_;rw[Ze7 hl2,Ze7 hl1];constructor
  · rintro⟨j,p,d,e1,e2,rfl⟩
    rw[h.objs_are,List.getElem?_map] at e1;rw[hnd,List.getElem?_map] at e2;unfold ZbB at e2;rw[List.getElem?_map] at e2
    cases hj:(loO c g)[j]? with
    |none=>rw[hj] at e1;cases e1
    |some z=>
     rw[hj] at e1 e2;have hz:=r1 z (Yo hj)
     obtain⟨n,rfl⟩: ∃n:Nat,z=n:=⟨z.toNat,by omega⟩
     have hgn:g.nd[n]? =some g.nd[n]:=Ya (by omega)
     obtain rfl:atP c sec g n=p:=by simpa using e1
     have e2':ndT (loO c g) g.nd[n]=d:=by
      have:g.nd.getD ((n:Int)).toNat noNd=g.nd[n]:=by rw[Int.toNat_natCast,Yn,hgn];rfl
      simp only[Option.map_some,this,Option.some.injEq] at e2;exact e2
     refine⟨n,_,_,(ZdP (c:=c) (sec:=sec) hgn).1,hgn,?_⟩;rw[← e2',h.row_again (Yo hgn)]
  · rintro⟨i,p,d,e1,e2,rfl⟩
    obtain⟨j,hj⟩:=List.getElem?_of_mem (key i d e2);have hz:=(ZdP (c:=c) (sec:=sec) e2).1
    obtain rfl:atP c sec g i=p:=by rw[hz] at e1;exact Yp e1
    refine⟨j,atP c sec g i,ndT (loO c g) d,?_,?_,?_⟩
    · rw[h.objs_are,List.getElem?_map,hj];rfl
    · rw[hnd,List.getElem?_map]
      unfold ZbB;rw[List.getElem?_map,hj];show some (ndT _ (g.nd.getD ((i:Int)).toNat noNd))=_;rw[Int.toNat_natCast,Yn,e2];rfl
    · rw[h.row_again (Yo e2)]
 have hs:ZeY c sec (rnG g (loO c g))=ZeY c sec g:=by
  unfold ZeY;rw[p1,hrt];unfold Z5;rw[List.map_map,List.length_map]
  congr 1
  exact List.map_congr_left fun v hv=>by
   show((true,0,Zbk (Z7 c sec g).objs (Za4 (loO c g) v)):Slt)=_;rw[h.val_again ((Zt.1 h.may).2 v hv)]
 unfold Z7;rw[hw,hs,p2,p3,p4]
end
end Go.Proofs.YtknoncenblehkaaGreatDoor
