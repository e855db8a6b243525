/- A graph as a heap may be; lifted, it is the graph in another -/
import Derived.Test.YtknoncenblehkaaGreatDoorG33
set_option maxRecDepth 100000
set_option maxHeartbeats 32000000
set_option linter.unusedSimpArgs false
set_option linter.unusedVariables false
namespace Go.Proofs.YtknoncenblehkaaGreatDoor
open Go.RowKit
section
variable {c:Cf} {sec:Bool} {g:Gr}
theorem LoOk.table (h:LoOk c sec g):Zbm (Ze c) (tbL c (loB c) g.nd) (frL (loB c+sBg c g.nd) (ZD c)):=by
 obtain⟨r1,r2,r3⟩:=ZeC (c:=c) g.nd (loB c) h.szs;have hb:=h.big;have hp:=Z3 (c:=c) h.szs;have hok:=h.ok;unfold Cf.ok at hok
 rcases Zay h.ok with⟨e1,e2,e3⟩|⟨e1,e2,e3⟩
 · have hA:Sp.ok (Ze c):=ZfK h.ok (by omega)
   have a1:(Ze c).1=loB c:=rfl;have a2:(Ze c).1+(Ze c).2=ZD c:=rfl
   have hx: ∀x∈tbL c (loB c) g.nd,Sp.ok x:=fun x hx=>by
    have:=r1 x hx
    unfold Sp.ok Za6;omega
   obtain⟨t1,t2⟩:=ZeQ hx r2
   obtain⟨b,hbd⟩: ∃b,b=loB c+sBg c g.nd:=⟨_,rfl⟩
   rw[← hbd] at r1 r3 hb ⊢
   have hf:b≠ZD c→Sp.ok (b,ZD c - b):=fun hn=>by
    unfold Sp.ok Za6;simp only;omega
   refine⟨fun x hxm=>?_,t1,t2,?_,fun p=>?_⟩
   · have:=r1 x hxm
     have h1:=hx x hxm;exact⟨h1,hA,⟨hA,by omega,by omega⟩,⟨hA,by omega,by omega⟩⟩
   · unfold frL
     split
     · exact Joined.nil
     · rename_i hn
       exact⟨fun y hy=>by rw[Ys.1 hy];exact hf hn,List.pairwise_singleton _ _⟩
   · unfold frL
     constructor
     · rintro⟨x,hxm,hh⟩
       split at hxm
       · cases hxm
       · rename_i hn
         rw[Ys.1 hxm] at hh;obtain⟨-,k1,k2⟩:=hh;simp only at k1 k2;refine⟨⟨hA,by omega,by omega⟩,?_⟩;rintro⟨y,hy, -,k3,k4⟩
         have:=r1 y hy
         omega
     · rintro⟨⟨-,k1,k2⟩,hn⟩
       by_cases hq:p<b
       · obtain⟨x,hxm,k3,k4⟩:=r3 p (by omega) hq
         exact absurd ⟨x,hxm,hx x hxm,k3,k4⟩ hn
       · have hne:b≠ZD c:=by omega
         rw[if_neg hne];exact⟨_,Ys.2 rfl,hf hne,by simp only;omega,by simp only;omega⟩
 · have ht:tbL c (loB c) g.nd=[]:=by
    cases hq:tbL c (loB c) g.nd with
    |nil=>rfl
    |cons x l=>
     have:=r1 x (by rw[hq];exact List.mem_cons_self ..)
     omega
   have hf:frL (loB c+sBg c g.nd) (ZD c)=[]:=if_pos (by omega);rw[ht,hf];refine⟨(fun _ h=>by cases h),List.Pairwise.nil,⟨(fun _ h=>by cases h),List.Pairwise.nil⟩,Joined.nil,fun p=>⟨(fun ⟨_,h,_⟩=>by cases h),fun hh=>?_⟩⟩;exfalso;have h1:=hh.1.1;unfold Sp.ok Ze at h1;rw[if_neg (fun h2=>h2.2 e3)] at h1;simp only at h1;omega
theorem LoOk.walk (h:LoOk c sec g):ats (tr (hAr (loW c sec g)) (loT c sec+sSm c g.nd) (loT c sec))=smL c (loT c sec) g.nd∧ ∀y∈tr (hAr (loW c sec g)) (loT c sec+sSm c g.nd) (loT c sec),y.e=0:=
 Zj4 (c:=c) (Zez _) g.nd (loT c sec) (loB c) h.szs rfl fun q hq _=>⟨(h.head hq).1,h.osz hq⟩
theorem LoOk.may9 (h:LoOk c sec g):Proofs.YtknoncenblehkaaGreatDoor.may9 (Zj c sec) (loT c sec+sSm c g.nd):=by
 have h1:=ZK h.ok sec;have h2:=h.small;have h3:=Z3 (c:=c) h.szs;have h4:(Zj c sec).1=loT c sec:=rfl;have h5:(Zj c sec).1+(Zj c sec).2=ZaX c sec:=rfl;unfold Proofs.YtknoncenblehkaaGreatDoor.may9 Sp.ok Za6;omega
theorem LoOk.steps (h:LoOk c sec g):(ZaK c sec g).steps=tr (hAr (loW c sec g)) (loT c sec+sSm c g.nd) (loT c sec):=by
 show Zad (hAr (loW c sec g)) (Zj c sec) (loT c sec+sSm c g.nd)=_;unfold Zad;rw[if_pos h.may9];rfl
theorem LoOk.smalls (h:LoOk c sec g):(ZaK c sec g).smalls=smL c (loT c sec) g.nd:=by
 unfold St.smalls;rw[h.steps,(Zlz h.walk.2 0).2.2,h.walk.1]
theorem LoOk.objs (h:LoOk c sec g):(ZaK c sec g).objs=smL c (loT c sec) g.nd++(tbL c (loB c) g.nd).map (·.1):=by
 unfold St.objs;rw[h.smalls];rfl
theorem LoOk.obj_of (h:LoOk c sec g) {p:Int} (hp:p∈(ZaK c sec g).objs): ∃d,(p,d)∈(loPl c sec g).zip g.nd:=by
 rw[h.objs] at hp;rcases Yq.1 hp with hp|hp
 · obtain⟨d,hd, -⟩:=ZhY g.nd _ (loB c) hp
   exact⟨d,hd⟩
 · obtain⟨x,hx,rfl⟩:=List.mem_map.1 hp
   obtain⟨d,hd, -⟩:=Zg1 g.nd (loT c sec) _ hx;exact⟨d,hd⟩
end
def smI (c:Cf):Nat→List Nd→List Int
 |_,[]=>[]
 |k,d::l=>if ZaD c d=true then(k:Int)::smI c (k+1) l else smI c (k+1) l
def bgI (c:Cf):Nat→List Nd→List Int
 |_,[]=>[]
 |k,d::l=>if ZaD c d=true then bgI c (k+1) l else(k:Int)::bgI c (k+1) l
def loO (c:Cf) (g:Gr):List Int:=smI c 0 g.nd++bgI c 0 g.nd
theorem Zjt {α:Type} {l r:List α} {k:Nat} {x:α} (h:l.drop k=x::r):l[k]? =some x∧l.drop (k+1)=r:=by
 have h1:(l.drop k)[0]? =some x:=by rw[h];rfl
 rw[List.getElem?_drop,Nat.add_zero] at h1;refine⟨h1,?_⟩;rw[← List.drop_drop,h];rfl
theorem Zoe {c:Cf} (P:List Int): ∀(ds:List Nd) (t b:Int) (k:Nat),P.drop k=plL c t b ds→
 smL c t ds=(smI c k ds).map (fun i=>P.getD i.toNat 0)∧(tbL c b ds).map (·.1)=(bgI c k ds).map fun i=>P.getD i.toNat 0
 |[],_,_,_,_=>⟨rfl,rfl⟩
 |d::l,t,b,k,h=>by
  cases hd2:ZaD c d with
  |true=>
   have e3:plL c t b (d::l)=t::plL c (t+ndSz d) b l:=by simp[plL,hd2]
   have e4:smL c t (d::l)=t::smL c (t+ndSz d) l:=by simp[smL,hd2]
   have e5:tbL c b (d::l)=tbL c b l:=by simp[tbL,hd2]
   have e6:smI c k (d::l)=(k:Int)::smI c (k+1) l:=by simp[smI,hd2]
   have e7:bgI c k (d::l)=bgI c (k+1) l:=by simp[bgI,hd2]
   rw[e3] at h;obtain⟨h1,h2⟩:=Zjt h;obtain⟨i1,i2⟩:=Zoe P l _ _ _ h2;rw[e4,e5,e6,e7];refine⟨?_,i2⟩;rw[List.map_cons,i1,Int.toNat_natCast,Ym,h1];rfl
  |false=>
   have e3:plL c t b (d::l)=b::plL c t (b+ndSz d) l:=by simp[plL,hd2]
   have e4:smL c t (d::l)=smL c t l:=by simp[smL,hd2]
   have e5:tbL c b (d::l)=(b,ndSz d)::tbL c (b+ndSz d) l:=by simp[tbL,hd2]
   have e6:smI c k (d::l)=smI c (k+1) l:=by simp[smI,hd2]
   have e7:bgI c k (d::l)=(k:Int)::bgI c (k+1) l:=by simp[bgI,hd2]
   rw[e3] at h;obtain⟨h1,h2⟩:=Zjt h;obtain⟨i1,i2⟩:=Zoe P l _ _ _ h2;rw[e4,e5,e6,e7];refine⟨i1,?_⟩;rw[List.map_cons,List.map_cons,i2,Int.toNat_natCast,Ym,h1];rfl
theorem ZmM {c:Cf}: ∀(ds:List Nd) (k:Nat),(∀x∈smI c k ds,(k:Int)≤x∧x<k+ds.length)∧(∀x∈bgI c k ds,(k:Int)≤x∧x<k+ds.length)∧(smI c k ds).Pairwise (· < ·)∧(bgI c k ds).Pairwise (· < ·)∧(∀x∈smI c k ds,x∉bgI c k ds)∧ ∀x:Int,(k:Int)≤x→x<k+ds.length→x∈smI c k ds++bgI c k ds
 |[],k=>⟨(fun _ h=>by cases h),(fun _ h=>by cases h),List.Pairwise.nil,List.Pairwise.nil,(fun _ h=>by cases h),fun x h1 h2=>by simp at h2;omega⟩
 |d::l,k=>by
  obtain⟨a1,a2,a3,a4,a5,a6⟩:=ZmM (c:=c) l (k+1)
  have hl:((d::l).length:Int)=l.length+1:=by simp
  rw[hl]
  cases hd2:ZaD c d with
  |true=>
   have e6:smI c k (d::l)=(k:Int)::smI c (k+1) l:=by simp[smI,hd2]
   have e7:bgI c k (d::l)=bgI c (k+1) l:=by simp[bgI,hd2]
   rw[e6,e7];refine⟨fun x hx=>?_,fun x hx=>by have:=a2 x hx;omega,List.pairwise_cons.2 ⟨fun x hx=>by have:=a1 x hx;omega,a3⟩,a4,fun x hx=>?_,fun x h1 h2=>?_⟩
   · rcases List.mem_cons.1 hx with rfl|hx
     · omega
     · have:=a1 x hx;omega
   · rcases List.mem_cons.1 hx with rfl|hx
     · intro hb;have:=a2 _ hb;omega
     · exact a5 x hx
   · by_cases he:x=k
     · rw[he];simp
     · have:=a6 x (by omega) (by omega)
       rw[List.cons_append];exact List.mem_cons_of_mem _ this
  |false=>
   have e6:smI c k (d::l)=smI c (k+1) l:=by simp[smI,hd2]
   have e7:bgI c k (d::l)=(k:Int)::bgI c (k+1) l:=by simp[bgI,hd2]
   rw[e6,e7];refine⟨fun x hx=>by have:=a1 x hx;omega,fun x hx=>?_,a3,List.pairwise_cons.2 ⟨fun x hx=>by have:=a2 x hx;omega,a4⟩,fun x hx hb=>?_,fun x h1 h2=>?_⟩
   · rcases List.mem_cons.1 hx with rfl|hx
     · omega
     · have:=a2 x hx;omega
   · rcases List.mem_cons.1 hb with rfl|hb
     · have:=a1 _ hx;omega
     · exact a5 x hx hb
   · by_cases he:x=k
     · rw[he];simp
     · rcases Yq.1 (a6 x (by omega) (by omega)) with h|h
       · exact List.mem_append_left _ h
       · exact List.mem_append_right _ (List.mem_cons_of_mem _ h)
theorem ZhC (c:Cf) (g:Gr):ZkA g.nd.length (loO c g)=true∧ ∀x:Int,0≤x→x<(g.nd.length:Int)→x∈loO c g:=by
 obtain⟨a1,a2,a3,a4,a5,a6⟩:=ZmM (c:=c) g.nd 0;refine⟨Zco.2 ⟨fun x hx=>?_,?_⟩,fun x h1 h2=>a6 x (by omega) (by omega)⟩
 · rcases Yq.1 hx with hx|hx
   · have:=a1 x hx;omega
   · have:=a2 x hx;omega
 · unfold loO
   rw[List.nodup_append];refine⟨a3.imp fun h=>by omega,a4.imp fun h=>by omega,fun x hx y hy e=>?_⟩;rw[e] at hx;exact a5 y hx hy
theorem ZpF {c:Cf} {g:Gr} (hg:Zb6 g=true):RnOk g (loO c g):=by
 obtain⟨h1,h2⟩:=ZhC c g
 have hv: ∀v,vOk g.nd.length v=true→Zno (loO c g) v=true:=fun v hv=>by
  unfold Zno;by_cases e:v.1=2
  · unfold vOk at hv
    rw[Bool.and_eq_true] at hv;have hm:=hv.1;rw[e,Zix] at hm;have hb:=ZM.1 hm
    have hx:v.2∈loO c g:=h2 v.2 hb.1 (by
     have:=hv.2
     rw[Yl e,Bool.true_and] at this;rcases Int.lt_or_le v.2 (g.nd.length:Int) with h|h
     · exact h
     · rw[Yl h] at this;cases this)
    rw[Yl hx,Bool.or_true]
  · rw[Yk e];rfl
 refine⟨hg,h1,?_,?_⟩
 · rw[List.all_eq_true]
   intro d hd;unfold Zoj at hd;obtain⟨i,hi,rfl⟩:=List.mem_map.1 hd;have hr:=(Zco.1 h1).1 i hi;unfold Zon;rw[List.all_eq_true];intro v hvm
   obtain⟨n,rfl⟩: ∃n:Nat,i=n:=⟨i.toNat,by omega⟩
   rw[Int.toNat_natCast,Ym,Ya (by omega)] at hvm;exact hv v ((Zbe.1 ((ZO.1 hg).1 _ (List.getElem_mem (by omega)))).2.2.2 v hvm)
 · unfold Zon
   rw[List.all_eq_true];exact fun v hvm=>hv v ((ZO.1 hg).2 v hvm)
end Go.Proofs.YtknoncenblehkaaGreatDoor
