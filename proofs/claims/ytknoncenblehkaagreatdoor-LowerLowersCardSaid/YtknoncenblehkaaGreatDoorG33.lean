/- A graph as a heap may be; its objects are the nodes, the sma -/
import Derived.Test.YtknoncenblehkaaGreatDoorG32
set_option maxRecDepth 100000
set_option maxHeartbeats 32000000
set_option linter.unusedSimpArgs false
set_option linter.unusedVariables false
namespace Go.Proofs.YtknoncenblehkaaGreatDoor
open Go.RowKit
theorem Zbo {c:Cf}: ∀(ds:List Nd) (t b:Int),(plL c t b ds).length=ds.length
 |[],_,_=>rfl
 |d::l,t,b=>by
  unfold plL
  split <;> simp[Zbo l]
def ZcJ (ds:List Nd):Prop:= ∀d∈ds,1≤ndSz d∧ndSz d≤8193
theorem ZjO {c:Cf}: ∀(ds:List Nd) (t b:Int),ZcJ ds→ ∀q∈(plL c t b ds).zip ds,
 (ZaD c q.2=true∧t≤q.1∧q.1+ndSz q.2≤t+sSm c ds)∨(ZaD c q.2=false∧b≤q.1∧q.1+ndSz q.2≤b+sBg c ds)
 |[],_,_,_,q,hq=>by simp[plL] at hq
 |d::l,t,b,hs,q,hq=>by
  have hd:=hs d (List.mem_cons_self ..);have hl:ZcJ l:=fun y hy=>hs y (List.mem_cons_of_mem _ hy);have hp:=Z3 (c:=c) hl
  cases hd2:ZaD c d with
  |true=>
   have e1:sSm c (d::l)=ndSz d+sSm c l:=by simp[sSm,hd2]
   have e2:sBg c (d::l)=sBg c l:=by simp[sBg,hd2]
   have e3:plL c t b (d::l)=t::plL c (t+ndSz d) b l:=by simp[plL,hd2]
   rw[e3,List.zip_cons_cons] at hq;rw[e1,e2];rcases List.mem_cons.1 hq with rfl|hq
   · exact .inl ⟨hd2,Int.le_refl _,by simp only;omega⟩
   · rcases ZjO l _ _ hl q hq with⟨a1,a2,a3⟩|⟨a1,a2,a3⟩
     · exact .inl ⟨a1,by omega,by omega⟩
     · exact .inr ⟨a1,a2,a3⟩
  |false=>
   have e1:sSm c (d::l)=sSm c l:=by simp[sSm,hd2]
   have e2:sBg c (d::l)=ndSz d+sBg c l:=by simp[sBg,hd2]
   have e3:plL c t b (d::l)=b::plL c t (b+ndSz d) l:=by simp[plL,hd2]
   rw[e3,List.zip_cons_cons] at hq;rw[e1,e2];rcases List.mem_cons.1 hq with rfl|hq
   · exact .inr ⟨hd2,Int.le_refl _,by simp only;omega⟩
   · rcases ZjO l _ _ hl q hq with⟨a1,a2,a3⟩|⟨a1,a2,a3⟩
     · exact .inl ⟨a1,a2,a3⟩
     · exact .inr ⟨a1,by omega,by omega⟩
theorem Zc6 {c:Cf}: ∀(ds:List Nd) (t b:Int),ZcJ ds→((∃d∈ds,ZaD c d=false)→t+sSm c ds≤b)→((plL c t b ds).zip ds).Pairwise fun x y=>x.1+ndSz x.2≤y.1∨y.1+ndSz y.2≤x.1
 |[],_,_,_,_=>by simp[plL]
 |d::l,t,b,hs,hb=>by
  have hd:=hs d (List.mem_cons_self ..);have hl:ZcJ l:=fun y hy=>hs y (List.mem_cons_of_mem _ hy);have hp:=Z3 (c:=c) hl
  cases hd2:ZaD c d with
  |true=>
   have e1:sSm c (d::l)=ndSz d+sSm c l:=by simp[sSm,hd2]
   have e3:plL c t b (d::l)=t::plL c (t+ndSz d) b l:=by simp[plL,hd2]
   rw[e1] at hb;rw[e3,List.zip_cons_cons,List.pairwise_cons];refine⟨fun q hq=>?_,Zc6 l _ _ hl fun ⟨y,hy,h⟩=>by have:=hb ⟨y,List.mem_cons_of_mem _ hy,h⟩;omega⟩
   rcases ZjO l _ _ hl q hq with⟨a1,a2,a3⟩|⟨a1,a2,a3⟩
   · exact .inl (by simp only;omega)
   · have hm:q.2∈l:=(List.of_mem_zip (a:=q.1) (b:=q.2) hq).2
     have:=hb ⟨q.2,List.mem_cons_of_mem _ hm,a1⟩
     exact .inl (by simp only;omega)
  |false=>
   have e1:sSm c (d::l)=sSm c l:=by simp[sSm,hd2]
   have e3:plL c t b (d::l)=b::plL c t (b+ndSz d) l:=by simp[plL,hd2]
   have hb2:=hb ⟨d,List.mem_cons_self ..,hd2⟩;rw[e1] at hb2;rw[e3,List.zip_cons_cons,List.pairwise_cons];refine⟨fun q hq=>?_,Zc6 l _ _ hl fun _=>by omega⟩
   rcases ZjO l _ _ hl q hq with⟨a1,a2,a3⟩|⟨a1,a2,a3⟩
   · exact .inr (by simp only;omega)
   · exact .inl (by simp only;omega)
def loT (c:Cf) (sec:Bool):Int:=(Zj c sec).1
def ZaX (c:Cf) (sec:Bool):Int:=(Zj c sec).1+(Zj c sec).2
def loB (c:Cf):Int:=(Ze c).1
def ZD (c:Cf):Int:=(Ze c).1+(Ze c).2
def loPl (c:Cf) (sec:Bool) (g:Gr):List Int:=plL c (loT c sec) (loB c) g.nd
def rowsOf (pl:List Int) (ds:List Nd):List (Nat×List Nat):=(pl.zip ds).map fun q=>(q.1.toNat,rowW pl q.2)
def loW (c:Cf) (sec:Bool) (g:Gr):List Nat:=Zav (rowsOf (loPl c sec g) g.nd) (List.replicate (Zk c).toNat 0)
def Zec (c:Cf) (sec:Bool) (g:Gr):List Slt:=(g.rt.map fun v=>((true,0,ZbK (loPl c sec g) v):Slt))++List.replicate (c.slots.toNat - g.rt.length) ((false,0,0):Slt)
def ZaK (c:Cf) (sec:Bool) (g:Gr):St:=⟨c,sec,loW c sec g,loT c sec+sSm c g.nd,tbL c (loB c) g.nd,frL (loB c+sBg c g.nd) (ZD c),Zec c sec g⟩
structure LoOk (c:Cf) (sec:Bool) (g:Gr):Prop where
 ok:c.ok
 may:Zb6 g=true
 slots:(g.rt.length:Int)≤c.slots
 small:loT c sec+sSm c g.nd≤ZaX c sec
 big:loB c+sBg c g.nd≤ZD c
section
variable {c:Cf} {sec:Bool} {g:Gr}
theorem LoOk.szs (h:LoOk c sec g):ZcJ g.nd:=fun d hd=>(Zed ((ZO.1 h.may).1 d hd)).2
theorem Zay (h:c.ok):(loB c=c.semi+c.semi∧ZD c=c.semi+c.semi+c.large∧c.large≠0)∨(loB c=0∧ZD c=0∧c.large=0):=by
 unfold loB ZD Ze;by_cases h0:c.large=0
 · rw[if_neg (fun hh=>hh.2 h0)]
   exact .inr ⟨rfl,rfl,h0⟩
 · rw[if_pos ⟨h,h0⟩]
   exact .inl ⟨rfl,rfl,h0⟩
theorem Za7 (h:c.ok):Zk c=c.semi+c.semi+c.large∧0≤Zk c∧Zk c≤98304:=by
 have h':=h;unfold Cf.ok at h';unfold Zk;rw[if_pos h];omega
theorem Zby (h:c.ok):0≤loT c sec∧loT c sec≤ZaX c sec∧ZaX c sec≤c.semi+c.semi:=by
 have h1:=ZK h sec;unfold loT ZaX;omega
theorem ZmE: ∀{ds:List Nd},ZcJ ds→ ∀d∈ds,ZaD c d=false→ndSz d≤sBg c ds
 |[],_,_,h,_=>by cases h
 |x::l,hs,d,hd,hb=>by
  have hx:=hs x (List.mem_cons_self ..);have hl:ZcJ l:=fun y hy=>hs y (List.mem_cons_of_mem _ hy);have hp:=Z3 (c:=c) hl;unfold sBg;rcases List.mem_cons.1 hd with rfl|hd
  · rw[hb,if_neg (by decide)];omega
  · have:=ZmE hl d hd hb
    split <;> omega
theorem LoOk.far (h:LoOk c sec g):(∃d∈g.nd,ZaD c d=false)→ZaX c sec≤loB c:=fun ⟨d,hd,hb⟩=>by
 have h1:=ZmE h.szs d hd hb;have h2:=(h.szs d hd).1;have h3:=h.big
 rcases Zay h.ok with⟨e1,e2, -⟩|⟨e1,e2, -⟩
 · have:=(Zby (sec:=sec) h.ok).2.2;omega
 · omega
theorem LoOk.at_in (h:LoOk c sec g) {q:Int×Nd} (hq:q∈(loPl c sec g).zip g.nd):0≤q.1∧q.1+ndSz q.2≤Zk c∧q.1≤1099511627776:=by
 have h0:=Zby (sec:=sec) h.ok;have h1:=Za7 h.ok;have h2:=h.small;have h3:=h.big;have h4:=Zay h.ok
 have h5:0≤c.large:=by have:=h.ok;unfold Cf.ok at this;omega
 have hm:q.2∈g.nd:=(List.of_mem_zip (a:=q.1) (b:=q.2) hq).2;have h6:=(h.szs q.2 hm).1
 rcases ZjO g.nd _ _ h.szs q hq with⟨a1,a2,a3⟩|⟨a1,a2,a3⟩ <;> omega
theorem LoOk.len_of (h:LoOk c sec g) {q:Int×Nd} (hq:q∈(loPl c sec g).zip g.nd):((rowW (loPl c sec g) q.2).length:Int)=ndSz q.2:=by
 have hm:q.2∈g.nd:=(List.of_mem_zip (a:=q.1) (b:=q.2) hq).2;rw[Zck,(Zed ((ZO.1 h.may).1 q.2 hm)).1];omega
theorem LoOk.inW (h:LoOk c sec g):InW (List.replicate (Zk c).toNat 0).length (rowsOf (loPl c sec g) g.nd):=fun x hx=>by
 obtain⟨q,hq,rfl⟩:=List.mem_map.1 hx;have h1:=h.at_in hq;have h2:=h.len_of hq;rw[List.length_replicate];simp only;omega
theorem LoOk.apart (h:LoOk c sec g):ZjC (rowsOf (loPl c sec g) g.nd):=by
 unfold ZjC rowsOf;rw[List.pairwise_map];refine List.Pairwise.imp_of_mem ?_ (Zc6 g.nd (loT c sec) (loB c) h.szs fun hb=>by have:=h.far hb;have:=h.small;omega);intro x y hx hy hxy;have h1:=h.at_in hx;have h2:=h.len_of hx;have h3:=h.at_in hy;have h4:=h.len_of hy;simp only;omega
theorem LoOk.wlen (h:LoOk c sec g):((loW c sec g).length:Int)=Zk c:=by
 have:=Za7 h.ok
 unfold loW;rw[ZdW _ _ h.inW,List.length_replicate];omega
theorem LoOk.word (h:LoOk c sec g) {q:Int×Nd} (hq:q∈(loPl c sec g).zip g.nd) {j:Nat} (hj:(j:Int)<ndSz q.2):wd (loW c sec g) (q.1.toNat+j)=wd (rowW (loPl c sec g) q.2) j:=by
 have h2:=h.len_of hq
 have:=(ZeR (q.1.toNat+j) _ _ h.inW h.apart).1 (q.1.toNat,rowW (loPl c sec g) q.2) (List.mem_map.2 ⟨q,hq,rfl⟩) (by simp only;omega) (by simp only;omega)
 rw[show q.1.toNat+j - q.1.toNat=j by omega] at this;exact this
theorem LoOk.head (h:LoOk c sec g) {q:Int×Nd} (hq:q∈(loPl c sec g).zip g.nd):ohE (loW c sec g) q.1=0∧ohK (loW c sec g) q.1=q.2.kd∧ohF (loW c sec g) q.1=q.2.fs.length∧ohR (loW c sec g) q.1=q.2.rs.length∧ohM (loW c sec g) q.1=false∧ohC (loW c sec g) q.1=0:=by
 have hm:q.2∈g.nd:=(List.of_mem_zip (a:=q.1) (b:=q.2) hq).2;have hd:=(ZO.1 h.may).1 q.2 hm;obtain⟨e1,e2,e3⟩:=Zed hd;obtain⟨i1,i2, -⟩:=h.at_in hq;obtain⟨k1,k2,k3,k4,k5,k6, -⟩:=ZmN (Zjq hd);have hw:=h.word hq (j:=0) (by omega);rw[Nat.add_zero,Zjx] at hw;have hl:=h.wlen
 obtain⟨n,hn⟩: ∃n:Nat,q.1=n:=⟨q.1.toNat,by omega⟩
 rw[hn] at hw i2 ⊢;rw[Int.toNat_natCast] at hw
 have hb:Ob (loW c sec g) n:=⟨by omega,by rw[hw];exact k1,by rw[hw,k3,k4];omega⟩
 obtain⟨r1,r2,r3,r4,r5,r6⟩:=Zkr hb;rw[hw] at r2 r3 r4 r5 r6;exact⟨r1,r2.trans k2,r3.trans k3,r4.trans k4,r5.trans k5,r6.trans k6⟩
theorem LoOk.osz (h:LoOk c sec g) {q:Int×Nd} (hq:q∈(loPl c sec g).zip g.nd):Proofs.YtknoncenblehkaaGreatDoor.osz (hAr (loW c sec g)) q.1=ndSz q.2:=by
 have hm:q.2∈g.nd:=(List.of_mem_zip (a:=q.1) (b:=q.2) hq).2;obtain⟨-, -,r3,r4, -⟩:=h.head hq;rw[(Zed ((ZO.1 h.may).1 q.2 hm)).1];show 1+ohF _ _+ohR _ _=_;rw[r3,r4]
end
theorem Zj4 {c:Cf} {h:Int→Hd} (H:Zll h) {top:Int}: ∀(ds:List Nd) (t b:Int),ZcJ ds→t+sSm c ds=top→(∀q∈(plL c t b ds).zip ds,ZaD c q.2=true→(h q.1).e=0∧osz h q.1=ndSz q.2)→
 ats (tr h top t)=smL c t ds∧ ∀y∈tr h top t,y.e=0
 |[],t,b,_,ht,_=>by
  have: ¬t<top:=by simp only[sSm] at ht;omega
  rw[Zh1 this];exact⟨rfl,fun _ h=>by cases h⟩
 |d::l,t,b,hs,ht,hh=>by
  have hd:=hs d (List.mem_cons_self ..);have hl:ZcJ l:=fun y hy=>hs y (List.mem_cons_of_mem _ hy);have hp:=Z3 (c:=c) hl
  cases hd2:ZaD c d with
  |true=>
   have e1:sSm c (d::l)=ndSz d+sSm c l:=by simp[sSm,hd2]
   have e3:plL c t b (d::l)=t::plL c (t+ndSz d) b l:=by simp[plL,hd2]
   have e4:smL c t (d::l)=t::smL c (t+ndSz d) l:=by simp[smL,hd2]
   rw[e1] at ht;rw[e3,List.zip_cons_cons] at hh;obtain⟨a1,a2⟩:=hh (t,d) (List.mem_cons_self ..) hd2;simp only at a1 a2;have hsw:swE h top t=0:=ZpA a1 (by rw[a2];omega);obtain⟨i1,i2⟩:=Zj4 (c:=c) H (top:=top) l (t+ndSz d) b hl (by omega) fun q hq=>hh q (List.mem_cons_of_mem _ hq);rw[ZjA H (by omega) hsw,a2,e4];refine⟨?_,fun y hy=>?_⟩
   · show(Zey h top t).at_::ats _=_
     rw[Za8,i1]
   · rcases List.mem_cons.1 hy with rfl|hy
     · rw[Zhe];exact hsw
     · exact i2 y hy
  |false=>
   have e1:sSm c (d::l)=sSm c l:=by simp[sSm,hd2]
   have e3:plL c t b (d::l)=b::plL c t (b+ndSz d) l:=by simp[plL,hd2]
   have e4:smL c t (d::l)=smL c t l:=by simp[smL,hd2]
   rw[e1] at ht;rw[e3,List.zip_cons_cons] at hh;rw[e4];exact Zj4 (c:=c) H (top:=top) l t (b+ndSz d) hl ht fun q hq=>hh q (List.mem_cons_of_mem _ hq)
theorem ZhY {c:Cf}: ∀(ds:List Nd) (t b:Int) {p:Int},p∈smL c t ds→ ∃d,(p,d)∈(plL c t b ds).zip ds∧ZaD c d=true
 |[],_,_,_,h=>by simp[smL] at h
 |d::l,t,b,p,h=>by
  cases hd2:ZaD c d with
  |true=>
   have e3:plL c t b (d::l)=t::plL c (t+ndSz d) b l:=by simp[plL,hd2]
   have e4:smL c t (d::l)=t::smL c (t+ndSz d) l:=by simp[smL,hd2]
   rw[e4] at h;rw[e3,List.zip_cons_cons];rcases List.mem_cons.1 h with rfl|h
   · exact⟨d,List.mem_cons_self ..,hd2⟩
   · obtain⟨y,hy,h2⟩:=ZhY l (t+ndSz d) b h
     exact⟨y,List.mem_cons_of_mem _ hy,h2⟩
  |false=>
   have e3:plL c t b (d::l)=b::plL c t (b+ndSz d) l:=by simp[plL,hd2]
   have e4:smL c t (d::l)=smL c t l:=by simp[smL,hd2]
   rw[e4] at h;rw[e3,List.zip_cons_cons];obtain⟨y,hy,h2⟩:=ZhY l t (b+ndSz d) h;exact⟨y,List.mem_cons_of_mem _ hy,h2⟩
theorem Zg1 {c:Cf}: ∀(ds:List Nd) (t b:Int) {x:Sp},x∈tbL c b ds→ ∃d,(x.1,d)∈(plL c t b ds).zip ds∧ZaD c d=false∧x.2=ndSz d
 |[],_,_,_,h=>by simp[tbL] at h
 |d::l,t,b,x,h=>by
  cases hd2:ZaD c d with
  |true=>
   have e3:plL c t b (d::l)=t::plL c (t+ndSz d) b l:=by simp[plL,hd2]
   have e4:tbL c b (d::l)=tbL c b l:=by simp[tbL,hd2]
   rw[e4] at h;rw[e3,List.zip_cons_cons];obtain⟨y,hy,h2⟩:=Zg1 l (t+ndSz d) b h;exact⟨y,List.mem_cons_of_mem _ hy,h2⟩
  |false=>
   have e3:plL c t b (d::l)=b::plL c t (b+ndSz d) l:=by simp[plL,hd2]
   have e4:tbL c b (d::l)=(b,ndSz d)::tbL c (b+ndSz d) l:=by simp[tbL,hd2]
   rw[e4] at h;rw[e3,List.zip_cons_cons];rcases List.mem_cons.1 h with rfl|h
   · exact⟨d,List.mem_cons_self ..,hd2,rfl⟩
   · obtain⟨y,hy,h2⟩:=Zg1 l t (b+ndSz d) h
     exact⟨y,List.mem_cons_of_mem _ hy,h2⟩
theorem ZeC {c:Cf}: ∀(ds:List Nd) (b:Int),ZcJ ds→(∀x∈tbL c b ds,b≤x.1∧x.1+x.2≤b+sBg c ds∧1≤x.2∧x.2≤8193)∧(tbL c b ds).Pairwise (fun x y=>x.1+x.2≤y.1)∧ ∀p,b≤p→p<b+sBg c ds→ ∃x∈tbL c b ds,x.1≤p∧p<x.1+x.2
 |[],b,_=>⟨(fun _ h=>by cases h),List.Pairwise.nil,fun p h1 h2=>by simp only[sBg] at h2;omega⟩
 |d::l,b,hs=>by
  have hd:=hs d (List.mem_cons_self ..);have hl:ZcJ l:=fun y hy=>hs y (List.mem_cons_of_mem _ hy);have hp:=Z3 (c:=c) hl
  cases hd2:ZaD c d with
  |true=>
   have e2:sBg c (d::l)=sBg c l:=by simp[sBg,hd2]
   have e4:tbL c b (d::l)=tbL c b l:=by simp[tbL,hd2]
   rw[e2,e4];exact ZeC l b hl
  |false=>
   have e2:sBg c (d::l)=ndSz d+sBg c l:=by simp[sBg,hd2]
   have e4:tbL c b (d::l)=(b,ndSz d)::tbL c (b+ndSz d) l:=by simp[tbL,hd2]
   rw[e2,e4];obtain⟨i1,i2,i3⟩:=ZeC (c:=c) l (b+ndSz d) hl;refine⟨fun x hx=>?_,List.pairwise_cons.2 ⟨fun x hx=>(i1 x hx).1,i2⟩,fun p h1 h2=>?_⟩
   · rcases List.mem_cons.1 hx with rfl|hx
     · simp only;omega
     · have:=i1 x hx;omega
   · by_cases hq:p<b+ndSz d
     · exact⟨_,List.mem_cons_self ..,h1,hq⟩
     · obtain⟨x,hx,h3⟩:=i3 p (by omega) (by omega)
       exact⟨x,List.mem_cons_of_mem _ hx,h3⟩
end Go.Proofs.YtknoncenblehkaaGreatDoor
