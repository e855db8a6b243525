/- A graph as a heap may be; lifted, it is the graph in another A graph as a heap may be; lifted, it is the graph in another -/
import Derived.Test.YtknoncenblehkaaGreatDoorF39
set_option maxRecDepth 100000
set_option maxHeartbeats 32000000
set_option linter.unusedSimpArgs false
set_option linter.unusedVariables false
namespace Go.Proofs.YtknoncenblehkaaGreatDoor
section
open Go.RowKit
section
variable {c:Cf} {sec:Bool} {g:Gr}
theorem LoOk.table (h:LoOk c sec g):ZbL (Ze c) (tbL c (loB c) g.nd) (frL (loB c+sBg c g.nd) (ZL c)):=by
 obtain⟨r1,r2,r3⟩:=ZhC (c:=c) g.nd (loB c) h.szs;have hb:=h.big;have hp:=Zad (c:=c) h.szs;have hok:=h.ok;unfold Cf.ok at hok
 rcases ZaL h.ok with⟨e1,e2,e3⟩|⟨e1,e2,e3⟩
 · have hA:Sp.ok (Ze c):=Zij h.ok (by omega)
   have a1:(Ze c).1=loB c:=rfl;have a2:(Ze c).1+(Ze c).2=ZL c:=rfl
   have hx: ∀x∈tbL c (loB c) g.nd,Sp.ok x:=fun x hx=>by
    have:=r1 x hx
    unfold Sp.ok Zcr;omega
   obtain⟨t1,t2⟩:=Zgd hx r2
   obtain⟨b,hbd⟩: ∃b,b=loB c+sBg c g.nd:=⟨_,rfl⟩
   rw[← hbd] at r1 r3 hb ⊢
   have hf:b≠ZL c→Sp.ok (b,ZL c - b):=fun hn=>by
    unfold Sp.ok Zcr;simp only;omega
   refine⟨fun x hxm=>?_,t1,t2,?_,fun p=>?_⟩
   · have:=r1 x hxm
     have h1:=hx x hxm;exact⟨h1,hA,⟨hA,by omega,by omega⟩,⟨hA,by omega,by omega⟩⟩
   · unfold frL
     split
     · exact Joined.nil
     · rename_i hn
       exact⟨fun y hy=>by rw[Yt.1 hy];exact hf hn,List.pairwise_singleton _ _⟩
   · unfold frL
     constructor
     · rintro⟨x,hxm,hh⟩
       split at hxm
       · cases hxm
       · rename_i hn
         rw[Yt.1 hxm] at hh;obtain⟨-,k1,k2⟩:=hh;simp only at k1 k2;refine⟨⟨hA,by omega,by omega⟩,?_⟩;rintro⟨y,hy, -,k3,k4⟩
         have:=r1 y hy
         omega
     · rintro⟨⟨-,k1,k2⟩,hn⟩
       by_cases hq:p<b
       · obtain⟨x,hxm,k3,k4⟩:=r3 p (by omega) hq
         exact absurd ⟨x,hxm,hx x hxm,k3,k4⟩ hn
       · have hne:b≠ZL c:=by omega
         rw[if_neg hne];exact⟨_,Yt.2 rfl,hf hne,by simp only;omega,by simp only;omega⟩
 · have ht:tbL c (loB c) g.nd=[]:=by
    cases hq:tbL c (loB c) g.nd with
    |nil=>rfl
    |cons x l=>
     have:=r1 x (by rw[hq];exact List.mem_cons_self ..)
     omega
   have hf:frL (loB c+sBg c g.nd) (ZL c)=[]:=if_pos (by omega);rw[ht,hf];refine⟨(fun _ h=>by cases h),List.Pairwise.nil,⟨(fun _ h=>by cases h),List.Pairwise.nil⟩,Joined.nil,fun p=>⟨(fun ⟨_,h,_⟩=>by cases h),fun hh=>?_⟩⟩;exfalso;have h1:=hh.1.1;unfold Sp.ok Ze at h1;rw[if_neg (fun h2=>h2.2 e3)] at h1;simp only at h1;omega
theorem LoOk.walk (h:LoOk c sec g):ats (tr (hAr (loW c sec g)) (loT c sec+sSm c g.nd) (loT c sec))=smL c (loT c sec) g.nd∧ ∀y∈tr (hAr (loW c sec g)) (loT c sec+sSm c g.nd) (loT c sec),y.e=0:=
 ZoE (c:=c) (Zc1 _) g.nd (loT c sec) (loB c) h.szs rfl fun q hq _=>⟨(h.head hq).1,h.osz hq⟩
theorem LoOk.may9 (h:LoOk c sec g):Proofs.YtknoncenblehkaaGreatDoor.may9 (Zl c sec) (loT c sec+sSm c g.nd):=by
 have h1:=ZP h.ok sec;have h2:=h.small;have h3:=Zad (c:=c) h.szs;have h4:(Zl c sec).1=loT c sec:=rfl;have h5:(Zl c sec).1+(Zl c sec).2=Zcq c sec:=rfl;unfold Proofs.YtknoncenblehkaaGreatDoor.may9 Sp.ok Zcr;omega
theorem LoOk.steps (h:LoOk c sec g):(Zaq c sec g).steps=tr (hAr (loW c sec g)) (loT c sec+sSm c g.nd) (loT c sec):=by
 show Zam (hAr (loW c sec g)) (Zl c sec) (loT c sec+sSm c g.nd)=_;unfold Zam;rw[if_pos h.may9];rfl
theorem LoOk.smalls (h:LoOk c sec g):(Zaq c sec g).smalls=smL c (loT c sec) g.nd:=by
 unfold St.smalls;rw[h.steps,(ZnQ h.walk.2 0).2.2,h.walk.1]
theorem LoOk.objs (h:LoOk c sec g):(Zaq c sec g).objs=smL c (loT c sec) g.nd++(tbL c (loB c) g.nd).map (·.1):=by
 unfold St.objs;rw[h.smalls];rfl
theorem LoOk.obj_of (h:LoOk c sec g) {p:Int} (hp:p∈(Zaq c sec g).objs): ∃d,(p,d)∈(loPl c sec g).zip g.nd:=by
 rw[h.objs] at hp;rcases Yr.1 hp with hp|hp
 · obtain⟨d,hd, -⟩:=Zkx g.nd _ (loB c) hp
   exact⟨d,hd⟩
 · obtain⟨x,hx,rfl⟩:=List.mem_map.1 hp
   obtain⟨d,hd, -⟩:=ZjE g.nd (loT c sec) _ hx;exact⟨d,hd⟩
end
def smI (c:Cf):Nat→List Nd→List Int
 |_,[]=>[]
 |k,d::l=>if ZU c d=true then(k:Int)::smI c (k+1) l else smI c (k+1) l
def bgI (c:Cf):Nat→List Nd→List Int
 |_,[]=>[]
 |k,d::l=>if ZU c d=true then bgI c (k+1) l else(k:Int)::bgI c (k+1) l
def loO (c:Cf) (g:Gr):List Int:=smI c 0 g.nd++bgI c 0 g.nd
theorem Zi2 {α:Type} {l r:List α} {k:Nat} {x:α} (h:l.drop k=x::r):l[k]? =some x∧l.drop (k+1)=r:=by
 have h1:(l.drop k)[0]? =some x:=by rw[h];rfl
 rw[List.getElem?_drop,Nat.add_zero] at h1;refine⟨h1,?_⟩;rw[← List.drop_drop,h];rfl
theorem ZsA {c:Cf} (P:List Int): ∀(ds:List Nd) (t b:Int) (k:Nat),P.drop k=plL c t b ds→
 smL c t ds=(smI c k ds).map (fun i=>P.getD i.toNat 0)∧(tbL c b ds).map (·.1)=(bgI c k ds).map fun i=>P.getD i.toNat 0
 |[],_,_,_,_=>⟨rfl,rfl⟩
 |d::l,t,b,k,h=>by
  cases hd2:ZU c d with
  |true=>
   have e3:plL c t b (d::l)=t::plL c (t+ndSz d) b l:=by simp[plL,hd2]
   have e4:smL c t (d::l)=t::smL c (t+ndSz d) l:=by simp[smL,hd2]
   have e5:tbL c b (d::l)=tbL c b l:=by simp[tbL,hd2]
   have e6:smI c k (d::l)=(k:Int)::smI c (k+1) l:=by simp[smI,hd2]
   have e7:bgI c k (d::l)=bgI c (k+1) l:=by simp[bgI,hd2]
   rw[e3] at h;obtain⟨h1,h2⟩:=Zi2 h;obtain⟨i1,i2⟩:=ZsA P l _ _ _ h2;rw[e4,e5,e6,e7];refine⟨?_,i2⟩;rw[List.map_cons,i1,Int.toNat_natCast,Yn,h1];rfl
  |false=>
   have e3:plL c t b (d::l)=b::plL c t (b+ndSz d) l:=by simp[plL,hd2]
   have e4:smL c t (d::l)=smL c t l:=by simp[smL,hd2]
   have e5:tbL c b (d::l)=(b,ndSz d)::tbL c (b+ndSz d) l:=by simp[tbL,hd2]
   have e6:smI c k (d::l)=smI c (k+1) l:=by simp[smI,hd2]
   have e7:bgI c k (d::l)=(k:Int)::bgI c (k+1) l:=by simp[bgI,hd2]
   rw[e3] at h;obtain⟨h1,h2⟩:=Zi2 h;obtain⟨i1,i2⟩:=ZsA P l _ _ _ h2;rw[e4,e5,e6,e7];refine⟨i1,?_⟩;rw[List.map_cons,List.map_cons,i2,Int.toNat_natCast,Yn,h1];rfl
theorem ZqP {c:Cf}: ∀(ds:List Nd) (k:Nat),(∀x∈smI c k ds,(k:Int)≤x∧x<k+ds.length)∧(∀x∈bgI c k ds,(k:Int)≤x∧x<k+ds.length)∧(smI c k ds).Pairwise (· < ·)∧(bgI c k ds).Pairwise (· < ·)∧(∀x∈smI c k ds,x∉bgI c k ds)∧ ∀x:Int,(k:Int)≤x→x<k+ds.length→x∈smI c k ds++bgI c k ds
 |[],k=>⟨(fun _ h=>by cases h),(fun _ h=>by cases h),List.Pairwise.nil,List.Pairwise.nil,(fun _ h=>by cases h),fun x h1 h2=>by simp at h2;omega⟩
 |d::l,k=>by
  obtain⟨a1,a2,a3,a4,a5,a6⟩:=ZqP (c:=c) l (k+1)
  have hl:((d::l).length:Int)=l.length+1:=by simp
  rw[hl]
  cases hd2:ZU c d with
  |true=>
   have e6:smI c k (d::l)=(k:Int)::smI c (k+1) l:=by simp[smI,hd2]
   have e7:bgI c k (d::l)=bgI c (k+1) l:=by simp[bgI,hd2]
   rw[e6,e7];refine⟨fun x hx=>?_,fun x hx=>by have:=a2 x hx;omega,List.pairwise_cons.2 ⟨fun x hx=>by have:=a1 x hx;omega,a3⟩,a4,fun x hx=>?_,fun x h1 h2=>?_⟩
   · rcases List.mem_cons.1 hx with rfl|hx
     · omega
     · have:=a1 x hx;omega
   · rcases List.mem_cons.1 hx with rfl|hx
     · intro hb;have:=a2 _ hb;omega
     · exact a5 x hx
   · by_cases he:x=k
     · rw[he];simp
     · have:=a6 x (by omega) (by omega)
       rw[List.cons_append];exact List.mem_cons_of_mem _ this
  |false=>
   have e6:smI c k (d::l)=smI c (k+1) l:=by simp[smI,hd2]
   have e7:bgI c k (d::l)=(k:Int)::bgI c (k+1) l:=by simp[bgI,hd2]
   rw[e6,e7];refine⟨fun x hx=>by have:=a1 x hx;omega,fun x hx=>?_,a3,List.pairwise_cons.2 ⟨fun x hx=>by have:=a2 x hx;omega,a4⟩,fun x hx hb=>?_,fun x h1 h2=>?_⟩
   · rcases List.mem_cons.1 hx with rfl|hx
     · omega
     · have:=a2 x hx;omega
   · rcases List.mem_cons.1 hb with rfl|hb
     · have:=a1 _ hx;omega
     · exact a5 x hx hb
   · by_cases he:x=k
     · rw[he];simp
     · rcases Yr.1 (a6 x (by omega) (by omega)) with h|h
       · exact List.mem_append_left _ h
       · exact List.mem_append_right _ (List.mem_cons_of_mem _ h)
theorem ZeE (c:Cf) (g:Gr):ZbF g.nd.length (loO c g)=true∧ ∀x:Int,0≤x→x<(g.nd.length:Int)→x∈loO c g:=by
 obtain⟨a1,a2,a3,a4,a5,a6⟩:=ZqP (c:=c) g.nd 0;refine⟨Zr.2 ⟨fun x hx=>?_,?_⟩,fun x h1 h2=>a6 x (by omega) (by omega)⟩
 · rcases Yr.1 hx with hx|hx
   · have:=a1 x hx;omega
   · have:=a2 x hx;omega
 · unfold loO
   rw[List.nodup_append];refine⟨a3.imp fun h=>by omega,a4.imp fun h=>by omega,fun x hx y hy e=>?_⟩;rw[e] at hx;exact a5 y hx hy
theorem Zpq {c:Cf} {g:Gr} (hg:ZA g=true):RnOk g (loO c g):=by
 obtain⟨h1,h2⟩:=ZeE c g
 have hv: ∀v,vOk g.nd.length v=true→Zat (loO c g) v=true:=fun v hv=>by
  unfold Zat;by_cases e:v.1=2
  · unfold vOk at hv
    rw[Bool.and_eq_true] at hv;have hm:=hv.1;rw[e,Zrp] at hm;have hb:=ZS.1 hm
    have hx:v.2∈loO c g:=h2 v.2 hb.1 (by
     have:=hv.2
     rw[Ym e,Bool.true_and] at this;rcases Int.lt_or_le v.2 (g.nd.length:Int) with h|h
     · exact h
     · rw[Ym h] at this;cases this)
    rw[Ym hx,Bool.or_true]
  · rw[Yl e];rfl
 refine⟨hg,h1,?_,?_⟩
 · rw[List.all_eq_true]
   intro d hd;unfold Zai at hd;obtain⟨i,hi,rfl⟩:=List.mem_map.1 hd;have hr:=(Zr.1 h1).1 i hi;unfold ZmB;rw[List.all_eq_true];intro v hvm
   obtain⟨n,rfl⟩: ∃n:Nat,i=n:=⟨i.toNat,by omega⟩
   rw[Int.toNat_natCast,Yn,Ya (by omega)] at hvm;exact hv v ((ZV.1 ((Zv.1 hg).1 _ (List.getElem_mem (by omega)))).2.2.2 v hvm)
 · unfold ZmB
   rw[List.all_eq_true];exact fun v hvm=>hv v ((Zv.1 hg).2 v hvm)
end
section
open Go.RowKit
section
variable {c:Cf} {sec:Bool} {g:Gr}
def atP (c:Cf) (sec:Bool) (g:Gr) (i:Int):Int:=(loPl c sec g).getD i.toNat 0
theorem ZdG {i:Nat} {d:Nd} (h:g.nd[i]? =some d):(loPl c sec g)[i]? =some (atP c sec g i)∧(atP c sec g i,d)∈(loPl c sec g).zip g.nd:=by
 have hi:=(Yk.1 h).1
 have hl:i<(loPl c sec g).length:=by unfold loPl;rw[ZbJ];exact hi
 have e:(loPl c sec g)[i]? =some (atP c sec g i):=by
  unfold atP;rw[Int.toNat_natCast,Yn,Ya hl];rfl
 refine⟨e,Yo (i:=i) ?_⟩;rw[List.getElem?_zip_eq_some];exact⟨e,h⟩
theorem LoOk.objs_are (h:LoOk c sec g):(Zaq c sec g).objs=(loO c g).map (atP c sec g):=by
 obtain⟨e1,e2⟩:=ZsA (c:=c) (loPl c sec g) g.nd (loT c sec) (loB c) 0 (by rw[List.drop_zero];rfl);rw[h.objs,e1,e2, ← List.map_append];rfl
theorem ZnV {l:List (Int×Nd)} (h:l.Pairwise fun x y=>x.1+ndSz x.2≤y.1∨y.1+ndSz y.2≤x.1) {i j:Nat} (hij:i<j) {x y:Int} {d e:Nd} (hi:l[i]? =some (x,d)) (hj:l[j]? =some (y,e)):x+ndSz d≤y∨y+ndSz e≤x:=by
 obtain⟨b1,q1⟩:=Yk.1 hi;obtain⟨b2,q2⟩:=Yk.1 hj
 have:=List.pairwise_iff_getElem.1 h i j b1 b2 hij
 rw[q1,q2] at this;exact this
theorem LoOk.pairs (h:LoOk c sec g):((loPl c sec g).zip g.nd).Pairwise fun x y=>x.1+ndSz x.2≤y.1∨y.1+ndSz y.2≤x.1:=
 Zd8 g.nd (loT c sec) (loB c) h.szs fun hb=>by have:=h.far hb;have:=h.small;omega
theorem LoOk.inj (h:LoOk c sec g) {i j:Nat} (hi:i<g.nd.length) (hj:j<g.nd.length) (e:atP c sec g i=atP c sec g j):i=j:=by
 have key: ∀{i j:Nat},i<j→j<g.nd.length→atP c sec g i≠atP c sec g j:=fun {i j} hij hj e=>by
  have hi':g.nd[i]? =some g.nd[i]:=Ya (by omega);have hj':g.nd[j]? =some g.nd[j]:=Ya hj;have hz:((loPl c sec g).zip g.nd)[i]? =some (atP c sec g i,g.nd[i]):=List.getElem?_zip_eq_some.2 ⟨(ZdG (c:=c) (sec:=sec) hi').1,hi'⟩;have hz2:((loPl c sec g).zip g.nd)[j]? =some (atP c sec g j,g.nd[j]):=List.getElem?_zip_eq_some.2 ⟨(ZdG (c:=c) (sec:=sec) hj').1,hj'⟩;have s1:=(h.szs _ (Yo hi')).1;have s2:=(h.szs _ (Yo hj')).1
  have:=ZnV h.pairs hij hz hz2
  generalize ndSz g.nd[i]=a at this s1;generalize ndSz g.nd[j]=b at this s2;generalize atP c sec g i=x at this e;generalize atP c sec g j=y at this e;omega
 rcases Nat.lt_trichotomy i j with hh|hh|hh
 · exact absurd e (key hh hj)
 · exact hh
 · exact absurd e.symm (key hh hi)
theorem LoOk.obj_at (h:LoOk c sec g) {i:Nat} (hi:i<g.nd.length):atP c sec g i∈(Zaq c sec g).objs:=by
 rw[h.objs_are];exact List.mem_map.2 ⟨(i:Int),(ZeE c g).2 i (by omega) (by omega),rfl⟩
theorem LoOk.plc_at (h:LoOk c sec g) {i:Nat} (hi:i<g.nd.length):plc (Zaq c sec g).objs (atP c sec g i)=plc (loO c g) (i:Int):=by
 obtain⟨o1,o2⟩:=ZeE c g;obtain⟨r1,r2⟩:=Zr.1 o1;obtain⟨k,e1,e2⟩:=Proofs.YtknoncenblehkaaGreatDoor.plc_at (o2 i (by omega) (by omega));rw[e1,h.objs_are];refine Znb (by rw[List.getElem?_map,e2];rfl) fun j y hj hy hne=>?_;rw[List.getElem?_map] at hy
 cases hq:(loO c g)[j]? with
 |none=>rw[hq] at hy;cases hy
 |some x=>
  rw[hq] at hy;have hx:=r1 x (Yo hq)
  obtain⟨n,rfl⟩: ∃n:Nat,x=n:=⟨x.toNat,by omega⟩
  have he:atP c sec g n=y:=by simpa using hy
  have:=h.inj (by omega) hi (he.trans hne)
  subst this
  have:=ZbB r2 hq e2
  omega
theorem LoOk.tgt (h:LoOk c sec g) {v:Sp} (hv:vOk g.nd.length v=true):ZbK v.1 (Proofs.YtknoncenblehkaaGreatDoor.tgt (loPl c sec g) v)=true∧(v.1=2→ ∃i:Nat,i<g.nd.length∧v.2=i∧Proofs.YtknoncenblehkaaGreatDoor.tgt (loPl c sec g) v=atP c sec g i)∧(v.1≠2→Proofs.YtknoncenblehkaaGreatDoor.tgt (loPl c sec g) v=v.2):=by
 have hm:ZbK v.1 v.2=true:=by
  unfold vOk at hv;rw[Bool.and_eq_true] at hv;exact hv.1
 by_cases e:v.1=2
 · obtain⟨b1,b2⟩:=Zi0 hv e
   obtain⟨i,hi⟩: ∃i:Nat,v.2=i:=⟨v.2.toNat,by omega⟩
   have ht:Proofs.YtknoncenblehkaaGreatDoor.tgt (loPl c sec g) v=atP c sec g i:=by unfold Proofs.YtknoncenblehkaaGreatDoor.tgt atP;rw[if_pos e,hi]
   obtain⟨-,z2⟩:=ZdG (c:=c) (sec:=sec) (Ya (l:=g.nd) (i:=i) (by omega));have hb:=h.at_in z2;refine⟨?_,fun _=>⟨i,by omega,hi,ht⟩,fun hn=>absurd e hn⟩;rw[ht,e,Zrp,ZS];exact⟨hb.1,hb.2.2⟩
 · have ht:Proofs.YtknoncenblehkaaGreatDoor.tgt (loPl c sec g) v=v.2:=if_neg e
   exact⟨by rw[ht];exact hm,fun hn=>absurd hn e,fun _=>ht⟩
theorem LoOk.val (h:LoOk c sec g) {v:Sp} (hv:vOk g.nd.length v=true):dK (ZbY (loPl c sec g) v:Nat)=v.1∧dX (ZbY (loPl c sec g) v:Nat)=Proofs.YtknoncenblehkaaGreatDoor.tgt (loPl c sec g) v∧dE (ZbY (loPl c sec g) v:Nat)=0∧ZbY (loPl c sec g) v<18446744073709551616:=by
 obtain⟨t1, -, -⟩:=h.tgt hv;obtain⟨e1,e2,e3,e4,e5⟩:=Zsv t1
 have hc:((ZbY (loPl c sec g) v:Nat):Int)=Zfm v.1 (Proofs.YtknoncenblehkaaGreatDoor.tgt (loPl c sec g) v):=by unfold ZbY;omega
 rw[hc];exact⟨e1,e2,e3,by omega⟩
theorem LoOk.leads (h:LoOk c sec g) {v:Sp} (hv:vOk g.nd.length v=true):Proofs.YtknoncenblehkaaGreatDoor.leads (Zaq c sec g).objs (ZbY (loPl c sec g) v)=true:=by
 obtain⟨e1,e2,e3, -⟩:=h.val hv;obtain⟨-,t2, -⟩:=h.tgt hv;unfold Proofs.YtknoncenblehkaaGreatDoor.leads;rw[e1,e2,e3,Ym rfl,Bool.true_and];by_cases e:v.1=2
 · obtain⟨i,hi, -,ht⟩:=t2 e
   rw[ht,ZmG.2 (h.obj_at hi),Bool.or_true]
 · rw[Yl e];rfl
theorem LoOk.valL (h:LoOk c sec g) {v:Sp} (hv:vOk g.nd.length v=true):Proofs.YtknoncenblehkaaGreatDoor.valL (Zaq c sec g).objs (ZbY (loPl c sec g) v)=Z9 (loO c g) v:=by
 obtain⟨e1,e2, -, -⟩:=h.val hv;obtain⟨-,t2,t3⟩:=h.tgt hv;unfold Proofs.YtknoncenblehkaaGreatDoor.valL;rw[e1,e2];by_cases e:v.1=2
 · obtain⟨i,hi,hvi,ht⟩:=t2 e
   rw[ht,if_pos ⟨e,h.obj_at hi⟩,h.plc_at hi];unfold Z9;rw[if_pos e,hvi]
 · rw[if_neg (fun hh=>e hh.1),t3 e]
   unfold Z9;rw[if_neg e]
theorem LoOk.nd_ok (h:LoOk c sec g) {d:Nd} (hd:d∈g.nd):Zio g.nd.length d=true:=(Zv.1 h.may).1 d hd
theorem LoOk.field (h:LoOk c sec g) {q:Int×Nd} (hq:q∈(loPl c sec g).zip g.nd) {k:Nat} {v:Sp} (hk:q.2.fs[k]? =some v):wd (loW c sec g) (q.1+1+(k:Nat)).toNat=ZbY (loPl c sec g) v:=by
 have hm:q.2∈g.nd:=(List.of_mem_zip (a:=q.1) (b:=q.2) hq).2;have e1:=(Zfr (h.nd_ok hm)).1;have hl:=(Yk.1 hk).1;have h0:=(h.at_in hq).1;rw[show(q.1+1+(k:Nat)).toNat=q.1.toNat+(1+k) by omega,h.word hq (by omega),Zlp hk]
theorem LoOk.raw (h:LoOk c sec g) {q:Int×Nd} (hq:q∈(loPl c sec g).zip g.nd) {k:Nat} {x:Nat} (hk:q.2.rs[k]? =some x):wd (loW c sec g) (q.1+1+(q.2.fs.length:Nat)+(k:Nat)).toNat=x:=by
 have hm:q.2∈g.nd:=(List.of_mem_zip (a:=q.1) (b:=q.2) hq).2;have e1:=(Zfr (h.nd_ok hm)).1;have hl:=(Yk.1 hk).1;have h0:=(h.at_in hq).1;rw[show(q.1+1+(q.2.fs.length:Nat)+(k:Nat)).toNat=q.1.toNat+(1+q.2.fs.length+k) by omega,h.word hq (by omega),ZpW hk]
theorem LoOk.slot_len (h:LoOk c sec g):((ZgU c sec g).length:Int)=c.slots:=by
 have h1:=h.slots;unfold ZgU;rw[Ys,List.length_map,List.length_replicate];omega
theorem LoOk.slot_is (h:LoOk c sec g) {t:Slt} (ht:t∈ZgU c sec g):(∃v∈g.rt,t=(true,0,ZbY (loPl c sec g) v))∨t=(false,0,0):=by
 unfold ZgU at ht;rcases Yr.1 ht with ht|ht
 · obtain⟨v,hv,rfl⟩:=List.mem_map.1 ht
   exact .inl ⟨v,hv,rfl⟩
 · exact .inr (List.eq_of_mem_replicate ht)
theorem LoOk.idle (h:LoOk c sec g) {q:Int×Nd} (hq:q∈(loPl c sec g).zip g.nd):Proofs.YtknoncenblehkaaGreatDoor.idle (loW c sec g) q.1=true:=by
 obtain⟨-, -, -, -,r5,r6⟩:=h.head hq;unfold Proofs.YtknoncenblehkaaGreatDoor.idle;rw[r5,r6];rfl
theorem LoOk.r3 (h:LoOk c sec g):Proofs.YtknoncenblehkaaGreatDoor.r3 (Zaq c sec g)=true:=by
 have h1:=h.small;have h2:=Zad (c:=c) h.szs;exact Ym (show loT c sec≤loT c sec+sSm c g.nd∧loT c sec+sSm c g.nd≤Zcq c sec from⟨by omega,h1⟩)
theorem LoOk.r4 (h:LoOk c sec g):wkE (Zaq c sec g).steps=0:=by
 rw[h.steps];exact(ZnQ h.walk.2 0).2.1
theorem LoOk.r5 (h:LoOk c sec g):Proofs.YtknoncenblehkaaGreatDoor.r5 (Zaq c sec g)=true:=by
 unfold Proofs.YtknoncenblehkaaGreatDoor.r5;rw[h.smalls,List.all_eq_true];intro p hp;obtain⟨d,hd,hs⟩:=Zkx g.nd _ (loB c) hp;show Proofs.YtknoncenblehkaaGreatDoor.low c (loW c sec g) p=true;unfold Proofs.YtknoncenblehkaaGreatDoor.low;rw[h.idle hd,h.osz hd,Bool.true_and];exact hs
theorem LoOk.big1 (h:LoOk c sec g) {x:Sp} (hx:x∈tbL c (loB c) g.nd):Proofs.YtknoncenblehkaaGreatDoor.big c (loW c sec g) x=true:=by
 obtain⟨d,hd,hs,hz⟩:=ZjE g.nd (loT c sec) _ hx;unfold Proofs.YtknoncenblehkaaGreatDoor.big
 have hns:ZaU c x.2=false:=by rw[hz];exact hs
 rw[Ym (h.head hd).1,Ym ((h.osz hd).trans hz.symm),h.idle hd,hns];rfl
theorem LoOk.r6 (h:LoOk c sec g):Proofs.YtknoncenblehkaaGreatDoor.r6 (Zaq c sec g)=true:=by
 unfold Proofs.YtknoncenblehkaaGreatDoor.r6;rw[Bool.and_eq_true,List.all_eq_true];exact⟨Ym h.table,fun x hx=>h.big1 hx⟩
theorem ZpU {x:Nat} (h:dE (x:Nat)=0):Zk dE (true,0,x)=true:=by
 unfold Zk;simp only[h];rfl
theorem LoOk.r7 (h:LoOk c sec g):Proofs.YtknoncenblehkaaGreatDoor.r7 (Zaq c sec g)=true:=by
 have hc:=h.ok;unfold Cf.ok at hc;refine ZlQ ⟨h.slot_len,show 1≤c.slots by omega,show c.slots≤1024 by omega⟩ fun j y _ hy=>?_;rcases h.slot_is (Yo hy) with⟨v,hv,e⟩|e
 · rw[e]
   exact ZpU (h.val ((Zv.1 h.may).2 v hv)).2.2.1
 · rw[e]
   exact Zdf ⟨by decide,by decide⟩
theorem LoOk.r8 (h:LoOk c sec g):Proofs.YtknoncenblehkaaGreatDoor.r8 (Zaq c sec g)=true:=by
 unfold Proofs.YtknoncenblehkaaGreatDoor.r8;rw[List.all_eq_true];intro p hp;obtain⟨d,hd⟩:=h.obj_of hp;have hm:d∈g.nd:=(List.of_mem_zip hd).2;unfold ZcI;rw[List.all_eq_true];intro k hk;have hk':=List.mem_range.1 hk;have hF:ohF (Zaq c sec g).ws p=d.fs.length:=(h.head hd).2.2.1;rw[hF,Int.toNat_natCast] at hk';have hg:d.fs[k]? =some d.fs[k]:=Ya hk';have e:wd (Zaq c sec g).ws (p+1+(k:Nat)).toNat=ZbY (loPl c sec g) d.fs[k]:=h.field hd hg;rw[e];exact h.leads ((ZV.1 (h.nd_ok hm)).2.2.2 _ (Yo hg))
theorem LoOk.r9 (h:LoOk c sec g):Proofs.YtknoncenblehkaaGreatDoor.r9 (Zaq c sec g)=true:=by
 unfold Proofs.YtknoncenblehkaaGreatDoor.r9;rw[List.all_eq_true];intro t ht;rcases h.slot_is ht with⟨v,hv,e⟩|e
 · rw[e]
   have:=h.leads ((Zv.1 h.may).2 v hv)
   simp only;rw[this];rfl
 · rw[e]
   rfl
theorem LoOk.may15 (h:LoOk c sec g):May15 (Zaq c sec g):=⟨h.ok,h.wlen,h.r3,h.r4,h.r5,h.r6,h.r7,h.r8,h.r9⟩
theorem Zko {α β:Type} (l:List α) (f:Nat→β) (F:α→β) (n:Nat) (hn:n=l.length) (h: ∀(k:Nat) x,l[k]? =some x→f k=F x):(List.range n).map f=l.map F:=by
 apply List.ext_getElem?;intro j;rw[List.getElem?_map,List.getElem?_map];by_cases hj:j<l.length
 · have hg:l[j]? =some l[j]:=Ya hj
   rw[List.getElem?_range (by omega),hg];show some (f j)=some (F l[j]);rw[h j _ hg]
 · rw[List.getElem?_eq_none (by rw[List.length_range];omega),List.getElem?_eq_none (by omega)]
   rfl
theorem LoOk.liN (h:LoOk c sec g) {q:Int×Nd} (hq:q∈(loPl c sec g).zip g.nd):Proofs.YtknoncenblehkaaGreatDoor.liN (Zaq c sec g).objs (loW c sec g) q.1=ndT (loO c g) q.2:=by
 obtain⟨r1,r2,r3,r4, -, -⟩:=h.head hq;have hm:q.2∈g.nd:=(List.of_mem_zip (a:=q.1) (b:=q.2) hq).2;unfold Proofs.YtknoncenblehkaaGreatDoor.liN ndT Zuu Zut ZO;rw[r2,r3,r4,Int.toNat_natCast,Int.toNat_natCast]
 have e1:=Zko q.2.fs (fun k:Nat=>Proofs.YtknoncenblehkaaGreatDoor.valL (Zaq c sec g).objs (wd (loW c sec g) (q.1+1+(k:Nat)).toNat)) (Z9 (loO c g)) _ rfl fun k v hk=>by
  rw[h.field hq hk];exact h.valL ((ZV.1 (h.nd_ok hm)).2.2.2 v (Yo hk))
 have e2:=Zko q.2.rs (fun k:Nat=>wd (loW c sec g) (q.1+1+(q.2.fs.length:Nat)+(k:Nat)).toNat) id _ rfl fun k x hk=>h.raw hq hk;rw[e1,e2,List.map_id]
theorem LoOk.used (h:LoOk c sec g):Zhx (ZgU c sec g)=g.rt.map fun v=>((true,0,ZbY (loPl c sec g) v):Slt):=by
 unfold Zhx ZgU;rw[List.filter_append]
 have e1:(g.rt.map fun v=>((true,0,ZbY (loPl c sec g) v):Slt)).filter (·.1)=g.rt.map fun v=>((true,0,ZbY (loPl c sec g) v):Slt):=by
  rw[List.filter_eq_self];intro t ht;obtain⟨v, -,rfl⟩:=List.mem_map.1 ht;rfl
 have e2:(List.replicate (c.slots.toNat - g.rt.length) ((false,0,0):Slt)).filter (·.1)=[]:=by
  rw[List.filter_eq_nil_iff];intro t ht;rw[List.eq_of_mem_replicate ht];decide
 rw[e1,e2,List.append_nil]
theorem LoOk.lift (h:LoOk c sec g):Zbh (Zaq c sec g)=0∧rnE g (loO c g)=0∧liG (Zaq c sec g)=rnG g (loO c g)∧(Zaq c sec g).objs=(loO c g).map (atP c sec g):=by
 have h0:=ZgP.2 h.may15;have hr:=Zbr.2 (Zpq (c:=c) h.may);refine⟨h0,hr,?_,h.objs_are⟩;rw[Zm7 h0];unfold rnG;rw[if_pos hr];obtain⟨r1, -⟩:=Zr.1 (ZeE c g).1
 have e1:(Zaq c sec g).objs.map (Proofs.YtknoncenblehkaaGreatDoor.liN (Zaq c sec g).objs (Zaq c sec g).ws)=(Zai g (loO c g)).map (ndT (loO c g)):=by
  unfold Zai;rw[h.objs_are,List.map_map,List.map_map, ← h.objs_are];refine List.map_congr_left fun i hi=>?_;have hb:=r1 i hi
  obtain⟨n,rfl⟩: ∃n:Nat,i=n:=⟨i.toNat,by omega⟩
  have hg:g.nd[n]? =some g.nd[n]:=Ya (by omega)
  have:=h.liN (ZdG (c:=c) (sec:=sec) hg).2
  show Proofs.YtknoncenblehkaaGreatDoor.liN _ (loW c sec g) (atP c sec g n)=ndT _ (g.nd.getD ((n:Int)).toNat noNd);rw[this,Int.toNat_natCast,Yn,hg];rfl
 have e2:ZmL (Zaq c sec g).objs (Zaq c sec g).sl=ZO (loO c g) g.rt:=by
  show ZmL _ (ZgU c sec g)=_;unfold ZmL ZO;rw[h.used,List.map_map];exact List.map_congr_left fun v hv=>h.valL ((Zv.1 h.may).2 v hv)
 rw[e1,e2]
end
end
end Go.Proofs.YtknoncenblehkaaGreatDoor
