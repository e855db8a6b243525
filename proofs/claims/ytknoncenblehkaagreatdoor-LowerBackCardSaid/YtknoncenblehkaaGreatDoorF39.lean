/- A graph as a heap, in plain words: words that are written, a A graph as a heap may be; its objects are the nodes, the sma -/
import Derived.Test.YtknoncenblehkaaGreatDoorF36
set_option maxRecDepth 100000
set_option maxHeartbeats 32000000
set_option linter.unusedSimpArgs false
set_option linter.unusedVariables false
namespace Go.Proofs.YtknoncenblehkaaGreatDoor
open Go.RowKit
def Zch (l:List Nat) (p:Nat) (r:List Nat):List Nat:=l.take p++(r++l.drop (p+r.length))
theorem Za4 {l:List Nat} {p:Nat} {r:List Nat} (h:p+r.length≤l.length):(Zch l p r).length=l.length:=by
 unfold Zch;simp only[Ys,List.length_take,List.length_drop];omega
theorem Zdl {l:List Nat} {p:Nat} {r:List Nat} (h:p+r.length≤l.length) (x:Nat):wd (Zch l p r) x=if p≤x∧x<p+r.length then wd r (x - p) else wd l x:=by
 have ht:(l.take p).length=p:=by rw[List.length_take];omega
 unfold Zch wd;simp only[Yn]
 split
 · rename_i hx
   rw[List.getElem?_append_right (by omega),List.getElem?_append_left (by omega),ht]
 · rename_i hx
   by_cases h1:x<p
   · rw[List.getElem?_append_left (by omega),List.getElem?_take,if_pos h1]
   · rw[List.getElem?_append_right (by omega),List.getElem?_append_right (by omega),List.getElem?_drop,ht]
     congr 2
     omega
def Zby:List (Nat×List Nat)→List Nat→List Nat
 |[],l=>l
 |x::ps,l=>Zby ps (Zch l x.1 x.2)
def InW (n:Nat) (ps:List (Nat×List Nat)):Prop:= ∀x∈ps,x.1+x.2.length≤n
def Zie (ps:List (Nat×List Nat)):Prop:=ps.Pairwise fun x y=>x.1+x.2.length≤y.1∨y.1+y.2.length≤x.1
theorem Zb7: ∀(ps:List (Nat×List Nat)) (l:List Nat),InW l.length ps→(Zby ps l).length=l.length
 |[],_,_=>rfl
 |x::ps,l,h=>by
  have e:=Za4 (h x (List.mem_cons_self ..));show(Zby ps _).length=_;rw[Zb7 ps _ (fun y hy=>by rw[e];exact h y (List.mem_cons_of_mem _ hy)),e]
theorem Zc9 (y:Nat): ∀(ps:List (Nat×List Nat)) (l:List Nat),InW l.length ps→Zie ps→
 (∀x∈ps,x.1≤y→y<x.1+x.2.length→wd (Zby ps l) y=wd x.2 (y - x.1))∧((∀x∈ps, ¬(x.1≤y∧y<x.1+x.2.length))→wd (Zby ps l) y=wd l y)
 |[],l,_,_=>⟨(fun _ h=>by cases h),fun _=>rfl⟩
 |z::ps,l,h,ha=>by
  have hz:=h z (List.mem_cons_self ..);have e:=Za4 hz;obtain⟨a1,a2⟩:=List.pairwise_cons.1 ha;obtain⟨i1,i2⟩:=Zc9 y ps (Zch l z.1 z.2) (fun x hx=>by rw[e];exact h x (List.mem_cons_of_mem _ hx)) a2;refine⟨fun x hx h1 h2=>?_,fun hn=>?_⟩
  · rcases List.mem_cons.1 hx with rfl|hx
    · show wd (Zby ps _) y=_
      rw[i2 (fun w hw hh=>by have:=a1 w hw;omega),Zdl hz,if_pos ⟨h1,h2⟩]
    · exact i1 x hx h1 h2
  · show wd (Zby ps _) y=_
    rw[i2 (fun w hw=>hn w (List.mem_cons_of_mem _ hw)),Zdl hz,if_neg (hn z (List.mem_cons_self ..))]
theorem Zmo {l m:List Nat} (hl:l.length=m.length) (h: ∀x,x<l.length→wd l x=wd m x):l=m:=by
 apply List.ext_getElem hl;intro i h1 h2
 have:=h i h1
 unfold wd at this;rw[Yn,Yn,Ya h1,Ya h2] at this;exact this
theorem Zsv {k x:Int} (h:ZbK k x=true):dK (Zfm k x)=k∧dX (Zfm k x)=x∧dE (Zfm k x)=0∧0≤Zfm k x∧Zfm k x<18446744073709551616:=by
 rw[ZdW h]
 rcases ZoI h with⟨rfl,rfl⟩|⟨rfl,h1,h2⟩|⟨rfl,h1,h2⟩
 · decide
 · have hb:0≤(4 * x+1) % 18446744073709551616∧(4 * x+1) % 18446744073709551616<18446744073709551616:=by omega
   have ht:ZmU 1=1:=rfl;rw[ht]
   have hm:(4 * x+1) % 18446744073709551616 % 4=1:=by omega
   by_cases h0:0≤x
   · obtain⟨e1,e2,e3⟩:=Zvd hm (by omega)
     exact⟨e1,by rw[e2];omega,e3,hb.1,hb.2⟩
   · obtain⟨e1,e2,e3⟩:=ZtQ hm (by omega)
     exact⟨e1,by rw[e2];omega,e3,hb.1,hb.2⟩
 · have ht:ZmU 2=2:=rfl
   rw[ht]
   have hm:(4 * x+2) % 18446744073709551616 % 4=2:=by omega
   obtain⟨e1,e2,e3⟩:=ZpL hm (by omega);exact⟨e1,by rw[e2];omega,e3,by omega,by omega⟩
def tgt (pl:List Int) (v:Sp):Int:=if v.1=2 then pl.getD v.2.toNat 0 else v.2
def ZbY (pl:List Int) (v:Sp):Nat:=(Zfm v.1 (tgt pl v)).toNat
def hdW (d:Nd):Nat:=(hW d.kd d.fs.length d.rs.length false 0).toNat
def rowW (pl:List Int) (d:Nd):List Nat:=hdW d::(d.fs.map (ZbY pl)++d.rs)
theorem ZgO (pl:List Int) (d:Nd):(rowW pl d).length=1+d.fs.length+d.rs.length:=by
 unfold rowW;simp only[List.length_cons,Ys,List.length_map];omega
theorem ZnM (pl:List Int) (d:Nd):wd (rowW pl d) 0=hdW d:=rfl
theorem Zlp {pl:List Int} {d:Nd} {k:Nat} {v:Sp} (h:d.fs[k]? =some v):wd (rowW pl d) (1+k)=ZbY pl v:=by
 have hk:=(Yk.1 h).1;unfold wd rowW;rw[Yn,show 1+k=k+1 by omega,List.getElem?_cons_succ,List.getElem?_append_left (by rw[List.length_map];exact hk),List.getElem?_map,h];rfl
theorem ZpW {pl:List Int} {d:Nd} {k:Nat} {x:Nat} (h:d.rs[k]? =some x):wd (rowW pl d) (1+d.fs.length+k)=x:=by
 unfold wd rowW;rw[Yn,show 1+d.fs.length+k=(d.fs.length+k)+1 by omega,List.getElem?_cons_succ,List.getElem?_append_right (by rw[List.length_map];omega),List.length_map,show d.fs.length+k - d.fs.length=k by omega,h];rfl
theorem Zmf {n:Nat} {d:Nd} (h:Zio n d=true):hmay d.kd d.fs.length d.rs.length 0=true:=by
 obtain⟨h1,h2,h3, -⟩:=ZV.1 h;exact Z3.2 ⟨h1,by omega,by omega,by omega⟩
theorem Zq4 {d:Nd} (h:hmay d.kd d.fs.length d.rs.length 0=true):wOk (hdW d)=true∧wK (hdW d)=d.kd∧wF (hdW d)=d.fs.length∧wR (hdW d)=d.rs.length∧wM (hdW d)=false∧wC (hdW d)=0∧hdW d<18446744073709551616:=by
 have hb:=Z3.1 h
 obtain⟨k,hk⟩: ∃k:Nat,d.kd=k:=⟨d.kd.toNat,by omega⟩
 have e:hdW d=d.rs.length * 16777216+d.fs.length * 256+k * 8+3:=by
  unfold hdW hW bi;rw[hk];simp only[Bool.false_eq_true,if_false];omega
 have eK:wK (hdW d)=d.kd:=by unfold wK;rw[e,hk];omega
 have eF:wF (hdW d)=d.fs.length:=by unfold wF;rw[e];omega
 have eR:wR (hdW d)=d.rs.length:=by unfold wR;rw[e];omega
 have eC:wC (hdW d)=0:=by unfold wC;rw[e];omega
 refine⟨?_,eK,eF,eR,?_,eC,by rw[e];omega⟩
 · unfold wOk
   rw[eK,eF,eR,eC,h]
   have:hdW d % 4=3:=by rw[e];omega
   rw[this];rfl
 · unfold wM
   have:hdW d / 4 % 2=0:=by rw[e];omega
   rw[this];rfl
theorem Zfr {n:Nat} {d:Nd} (h:Zio n d=true):ndSz d=1+(d.fs.length:Int)+d.rs.length∧1≤ndSz d∧ndSz d≤8193:=by
 obtain⟨h1,h2,h3, -⟩:=ZV.1 h;unfold ndSz ZkO wrap64;omega
def ZU (c:Cf) (d:Nd):Bool:=ZaU c (ndSz d)
def sSm (c:Cf):List Nd→Int
 |[]=>0
 |d::l=>(if ZU c d=true then ndSz d else 0)+sSm c l
def sBg (c:Cf):List Nd→Int
 |[]=>0
 |d::l=>(if ZU c d=true then 0 else ndSz d)+sBg c l
def plL (c:Cf):Int→Int→List Nd→List Int
 |_,_,[]=>[]
 |t,b,d::l=>if ZU c d=true then t::plL c (t+ndSz d) b l else b::plL c t (b+ndSz d) l
def smL (c:Cf):Int→List Nd→List Int
 |_,[]=>[]
 |t,d::l=>if ZU c d=true then t::smL c (t+ndSz d) l else smL c t l
def tbL (c:Cf):Int→List Nd→List Sp
 |_,[]=>[]
 |b,d::l=>if ZU c d=true then tbL c b l else(b,ndSz d)::tbL c (b+ndSz d) l
def frL (b e:Int):List Sp:=if b=e then[] else[(b,e - b)]
theorem Zad {c:Cf}: ∀{ds:List Nd},(∀d∈ds,1≤ndSz d∧ndSz d≤8193)→0≤sSm c ds∧0≤sBg c ds
 |[],_=>⟨Int.le_refl _,Int.le_refl _⟩
 |d::l,h=>by
  have h1:=h d (List.mem_cons_self ..);have h2:=Zad (c:=c) (ds:=l) fun x hx=>h x (List.mem_cons_of_mem _ hx);unfold sSm sBg
  split <;> omega
theorem Zj0 {b e n:Int} (h0:0≤b) (h1:1≤n) (he:e≤Zcr) (hbe:b≤e):(b+n≤e→Zco (frL b e) n=(frL (b+n) e,b,0))∧(¬b+n≤e→Zco (frL b e) n=(frL b e,0,9)):=by
 have hn: ¬n<1:=by omega
 by_cases hb:b=e
 · refine⟨fun h=>by omega,fun _=>Zdg hn ?_⟩
   unfold frL;rw[if_pos hb];simp[ZgT]
 · have hf:frL b e=[(b,e - b)]:=if_neg hb
   have hok:Sp.ok (b,e - b):=⟨h0,by simp only;omega,by simp only;omega,by simp only;omega⟩
   refine⟨fun h=>?_,fun h=>Zdg hn ?_⟩
   · have hfit:Sp.fits n (b,e - b)=true:=Zgu.2 ⟨hok,by simp only;omega⟩
     have hi: ¬ZgT (Sp.fits n) (frL b e)<0:=by
      intro hlt
      have:=Zg9 (Sp.fits n) (frL b e)
      rw[hf] at this hlt
      have h2:([((b,e - b):Sp)].any (Sp.fits n))=true:=by simp[hfit]
      rw[h2] at this
      have:=of_decide_eq_true this
      omega
     obtain⟨k,x, -,hx, -, -,e1,e2⟩:=ZfJ hn hi;rw[hf] at hx e1 e2 ⊢
     have hk:k=0:=by
      have:=(Yk.1 hx).1
      simp at this;omega
     subst hk
     obtain rfl:(b,e - b)=x:=by simpa using hx
     simp only at e1 e2;by_cases hne:e - b=n
     · rw[e1 hne]
       unfold frL;rw[if_pos (by omega)];rfl
     · rw[e2 hne]
       unfold frL;rw[if_neg (by omega),show e - (b+n)=e - b - n by omega];rfl
   · rw[hf]
     have:=Zg9 (Sp.fits n) [((b,e - b):Sp)]
     have hfit:Sp.fits n (b,e - b)=false:=by
      cases hq:Sp.fits n (b,e - b) with
      |false=>rfl
      |true=>have:=(Zgu.1 hq).2;simp only at this;omega
     have h2:([((b,e - b):Sp)].any (Sp.fits n))=false:=by simp[hfit]
     rw[h2] at this
     have:=of_decide_eq_false this
     omega
theorem ZbJ {c:Cf}: ∀(ds:List Nd) (t b:Int),(plL c t b ds).length=ds.length
 |[],_,_=>rfl
 |d::l,t,b=>by
  unfold plL
  split <;> simp[ZbJ l]
def ZdZ (ds:List Nd):Prop:= ∀d∈ds,1≤ndSz d∧ndSz d≤8193
theorem ZnH {c:Cf}: ∀(ds:List Nd) (t b:Int),ZdZ ds→ ∀q∈(plL c t b ds).zip ds,
 (ZU c q.2=true∧t≤q.1∧q.1+ndSz q.2≤t+sSm c ds)∨(ZU c q.2=false∧b≤q.1∧q.1+ndSz q.2≤b+sBg c ds)
 |[],_,_,_,q,hq=>by simp[plL] at hq
 |d::l,t,b,hs,q,hq=>by
  have hd:=hs d (List.mem_cons_self ..);have hl:ZdZ l:=fun y hy=>hs y (List.mem_cons_of_mem _ hy);have hp:=Zad (c:=c) hl
  cases hd2:ZU c d with
  |true=>
   have e1:sSm c (d::l)=ndSz d+sSm c l:=by simp[sSm,hd2]
   have e2:sBg c (d::l)=sBg c l:=by simp[sBg,hd2]
   have e3:plL c t b (d::l)=t::plL c (t+ndSz d) b l:=by simp[plL,hd2]
   rw[e3,List.zip_cons_cons] at hq;rw[e1,e2];rcases List.mem_cons.1 hq with rfl|hq
   · exact .inl ⟨hd2,Int.le_refl _,by simp only;omega⟩
   · rcases ZnH l _ _ hl q hq with⟨a1,a2,a3⟩|⟨a1,a2,a3⟩
     · exact .inl ⟨a1,by omega,by omega⟩
     · exact .inr ⟨a1,a2,a3⟩
  |false=>
   have e1:sSm c (d::l)=sSm c l:=by simp[sSm,hd2]
   have e2:sBg c (d::l)=ndSz d+sBg c l:=by simp[sBg,hd2]
   have e3:plL c t b (d::l)=b::plL c t (b+ndSz d) l:=by simp[plL,hd2]
   rw[e3,List.zip_cons_cons] at hq;rw[e1,e2];rcases List.mem_cons.1 hq with rfl|hq
   · exact .inr ⟨hd2,Int.le_refl _,by simp only;omega⟩
   · rcases ZnH l _ _ hl q hq with⟨a1,a2,a3⟩|⟨a1,a2,a3⟩
     · exact .inl ⟨a1,a2,a3⟩
     · exact .inr ⟨a1,by omega,by omega⟩
theorem Zd8 {c:Cf}: ∀(ds:List Nd) (t b:Int),ZdZ ds→((∃d∈ds,ZU c d=false)→t+sSm c ds≤b)→((plL c t b ds).zip ds).Pairwise fun x y=>x.1+ndSz x.2≤y.1∨y.1+ndSz y.2≤x.1
 |[],_,_,_,_=>by simp[plL]
 |d::l,t,b,hs,hb=>by
  have hd:=hs d (List.mem_cons_self ..);have hl:ZdZ l:=fun y hy=>hs y (List.mem_cons_of_mem _ hy);have hp:=Zad (c:=c) hl
  cases hd2:ZU c d with
  |true=>
   have e1:sSm c (d::l)=ndSz d+sSm c l:=by simp[sSm,hd2]
   have e3:plL c t b (d::l)=t::plL c (t+ndSz d) b l:=by simp[plL,hd2]
   rw[e1] at hb;rw[e3,List.zip_cons_cons,List.pairwise_cons];refine⟨fun q hq=>?_,Zd8 l _ _ hl fun ⟨y,hy,h⟩=>by have:=hb ⟨y,List.mem_cons_of_mem _ hy,h⟩;omega⟩
   rcases ZnH l _ _ hl q hq with⟨a1,a2,a3⟩|⟨a1,a2,a3⟩
   · exact .inl (by simp only;omega)
   · have hm:q.2∈l:=(List.of_mem_zip (a:=q.1) (b:=q.2) hq).2
     have:=hb ⟨q.2,List.mem_cons_of_mem _ hm,a1⟩
     exact .inl (by simp only;omega)
  |false=>
   have e1:sSm c (d::l)=sSm c l:=by simp[sSm,hd2]
   have e3:plL c t b (d::l)=b::plL c t (b+ndSz d) l:=by simp[plL,hd2]
   have hb2:=hb ⟨d,List.mem_cons_self ..,hd2⟩;rw[e1] at hb2;rw[e3,List.zip_cons_cons,List.pairwise_cons];refine⟨fun q hq=>?_,Zd8 l _ _ hl fun _=>by omega⟩
   rcases ZnH l _ _ hl q hq with⟨a1,a2,a3⟩|⟨a1,a2,a3⟩
   · exact .inr (by simp only;omega)
   · exact .inl (by simp only;omega)
def loT (c:Cf) (sec:Bool):Int:=(Zl c sec).1
def Zcq (c:Cf) (sec:Bool):Int:=(Zl c sec).1+(Zl c sec).2
def loB (c:Cf):Int:=(Ze c).1
def ZL (c:Cf):Int:=(Ze c).1+(Ze c).2
def loPl (c:Cf) (sec:Bool) (g:Gr):List Int:=plL c (loT c sec) (loB c) g.nd
def rowsOf (pl:List Int) (ds:List Nd):List (Nat×List Nat):=(pl.zip ds).map fun q=>(q.1.toNat,rowW pl q.2)
def loW (c:Cf) (sec:Bool) (g:Gr):List Nat:=Zby (rowsOf (loPl c sec g) g.nd) (List.replicate (Zo c).toNat 0)
def ZgU (c:Cf) (sec:Bool) (g:Gr):List Slt:=(g.rt.map fun v=>((true,0,ZbY (loPl c sec g) v):Slt))++List.replicate (c.slots.toNat - g.rt.length) ((false,0,0):Slt)
def Zaq (c:Cf) (sec:Bool) (g:Gr):St:=⟨c,sec,loW c sec g,loT c sec+sSm c g.nd,tbL c (loB c) g.nd,frL (loB c+sBg c g.nd) (ZL c),ZgU c sec g⟩
structure LoOk (c:Cf) (sec:Bool) (g:Gr):Prop where
 ok:c.ok
 may:ZA g=true
 slots:(g.rt.length:Int)≤c.slots
 small:loT c sec+sSm c g.nd≤Zcq c sec
 big:loB c+sBg c g.nd≤ZL c
section
variable {c:Cf} {sec:Bool} {g:Gr}
theorem LoOk.szs (h:LoOk c sec g):ZdZ g.nd:=fun d hd=>(Zfr ((Zv.1 h.may).1 d hd)).2
theorem ZaL (h:c.ok):(loB c=c.semi+c.semi∧ZL c=c.semi+c.semi+c.large∧c.large≠0)∨(loB c=0∧ZL c=0∧c.large=0):=by
 unfold loB ZL Ze;by_cases h0:c.large=0
 · rw[if_neg (fun hh=>hh.2 h0)]
   exact .inr ⟨rfl,rfl,h0⟩
 · rw[if_pos ⟨h,h0⟩]
   exact .inl ⟨rfl,rfl,h0⟩
theorem ZcT (h:c.ok):Zo c=c.semi+c.semi+c.large∧0≤Zo c∧Zo c≤98304:=by
 have h':=h;unfold Cf.ok at h';unfold Zo;rw[if_pos h];omega
theorem Zdt (h:c.ok):0≤loT c sec∧loT c sec≤Zcq c sec∧Zcq c sec≤c.semi+c.semi:=by
 have h1:=ZP h sec;unfold loT Zcq;omega
theorem Zra: ∀{ds:List Nd},ZdZ ds→ ∀d∈ds,ZU c d=false→ndSz d≤sBg c ds
 |[],_,_,h,_=>by cases h
 |x::l,hs,d,hd,hb=>by
  have hx:=hs x (List.mem_cons_self ..);have hl:ZdZ l:=fun y hy=>hs y (List.mem_cons_of_mem _ hy);have hp:=Zad (c:=c) hl;unfold sBg;rcases List.mem_cons.1 hd with rfl|hd
  · rw[hb,if_neg (by decide)];omega
  · have:=Zra hl d hd hb
    split <;> omega
theorem LoOk.far (h:LoOk c sec g):(∃d∈g.nd,ZU c d=false)→Zcq c sec≤loB c:=fun ⟨d,hd,hb⟩=>by
 have h1:=Zra h.szs d hd hb;have h2:=(h.szs d hd).1;have h3:=h.big
 rcases ZaL h.ok with⟨e1,e2, -⟩|⟨e1,e2, -⟩
 · have:=(Zdt (sec:=sec) h.ok).2.2;omega
 · omega
theorem LoOk.at_in (h:LoOk c sec g) {q:Int×Nd} (hq:q∈(loPl c sec g).zip g.nd):0≤q.1∧q.1+ndSz q.2≤Zo c∧q.1≤1099511627776:=by
 have h0:=Zdt (sec:=sec) h.ok;have h1:=ZcT h.ok;have h2:=h.small;have h3:=h.big;have h4:=ZaL h.ok
 have h5:0≤c.large:=by have:=h.ok;unfold Cf.ok at this;omega
 have hm:q.2∈g.nd:=(List.of_mem_zip (a:=q.1) (b:=q.2) hq).2;have h6:=(h.szs q.2 hm).1
 rcases ZnH g.nd _ _ h.szs q hq with⟨a1,a2,a3⟩|⟨a1,a2,a3⟩ <;> omega
theorem LoOk.len_of (h:LoOk c sec g) {q:Int×Nd} (hq:q∈(loPl c sec g).zip g.nd):((rowW (loPl c sec g) q.2).length:Int)=ndSz q.2:=by
 have hm:q.2∈g.nd:=(List.of_mem_zip (a:=q.1) (b:=q.2) hq).2;rw[ZgO,(Zfr ((Zv.1 h.may).1 q.2 hm)).1];omega
theorem LoOk.inW (h:LoOk c sec g):InW (List.replicate (Zo c).toNat 0).length (rowsOf (loPl c sec g) g.nd):=fun x hx=>by
 obtain⟨q,hq,rfl⟩:=List.mem_map.1 hx;have h1:=h.at_in hq;have h2:=h.len_of hq;rw[List.length_replicate];simp only;omega
theorem LoOk.apart (h:LoOk c sec g):Zie (rowsOf (loPl c sec g) g.nd):=by
 unfold Zie rowsOf;rw[List.pairwise_map];refine List.Pairwise.imp_of_mem ?_ (Zd8 g.nd (loT c sec) (loB c) h.szs fun hb=>by have:=h.far hb;have:=h.small;omega);intro x y hx hy hxy;have h1:=h.at_in hx;have h2:=h.len_of hx;have h3:=h.at_in hy;have h4:=h.len_of hy;simp only;omega
theorem LoOk.wlen (h:LoOk c sec g):((loW c sec g).length:Int)=Zo c:=by
 have:=ZcT h.ok
 unfold loW;rw[Zb7 _ _ h.inW,List.length_replicate];omega
theorem LoOk.word (h:LoOk c sec g) {q:Int×Nd} (hq:q∈(loPl c sec g).zip g.nd) {j:Nat} (hj:(j:Int)<ndSz q.2):wd (loW c sec g) (q.1.toNat+j)=wd (rowW (loPl c sec g) q.2) j:=by
 have h2:=h.len_of hq
 have:=(Zc9 (q.1.toNat+j) _ _ h.inW h.apart).1 (q.1.toNat,rowW (loPl c sec g) q.2) (List.mem_map.2 ⟨q,hq,rfl⟩) (by simp only;omega) (by simp only;omega)
 rw[show q.1.toNat+j - q.1.toNat=j by omega] at this;exact this
theorem LoOk.head (h:LoOk c sec g) {q:Int×Nd} (hq:q∈(loPl c sec g).zip g.nd):ohE (loW c sec g) q.1=0∧ohK (loW c sec g) q.1=q.2.kd∧ohF (loW c sec g) q.1=q.2.fs.length∧ohR (loW c sec g) q.1=q.2.rs.length∧ohM (loW c sec g) q.1=false∧ohC (loW c sec g) q.1=0:=by
 have hm:q.2∈g.nd:=(List.of_mem_zip (a:=q.1) (b:=q.2) hq).2;have hd:=(Zv.1 h.may).1 q.2 hm;obtain⟨e1,e2,e3⟩:=Zfr hd;obtain⟨i1,i2, -⟩:=h.at_in hq;obtain⟨k1,k2,k3,k4,k5,k6, -⟩:=Zq4 (Zmf hd);have hw:=h.word hq (j:=0) (by omega);rw[Nat.add_zero,ZnM] at hw;have hl:=h.wlen
 obtain⟨n,hn⟩: ∃n:Nat,q.1=n:=⟨q.1.toNat,by omega⟩
 rw[hn] at hw i2 ⊢;rw[Int.toNat_natCast] at hw
 have hb:Ob (loW c sec g) n:=⟨by omega,by rw[hw];exact k1,by rw[hw,k3,k4];omega⟩
 obtain⟨r1,r2,r3,r4,r5,r6⟩:=ZjQ hb;rw[hw] at r2 r3 r4 r5 r6;exact⟨r1,r2.trans k2,r3.trans k3,r4.trans k4,r5.trans k5,r6.trans k6⟩
theorem LoOk.osz (h:LoOk c sec g) {q:Int×Nd} (hq:q∈(loPl c sec g).zip g.nd):Proofs.YtknoncenblehkaaGreatDoor.osz (hAr (loW c sec g)) q.1=ndSz q.2:=by
 have hm:q.2∈g.nd:=(List.of_mem_zip (a:=q.1) (b:=q.2) hq).2;obtain⟨-, -,r3,r4, -⟩:=h.head hq;rw[(Zfr ((Zv.1 h.may).1 q.2 hm)).1];show 1+ohF _ _+ohR _ _=_;rw[r3,r4]
end
theorem ZoE {c:Cf} {h:Int→Hd} (H:ZoT h) {top:Int}: ∀(ds:List Nd) (t b:Int),ZdZ ds→t+sSm c ds=top→(∀q∈(plL c t b ds).zip ds,ZU c q.2=true→(h q.1).e=0∧osz h q.1=ndSz q.2)→
 ats (tr h top t)=smL c t ds∧ ∀y∈tr h top t,y.e=0
 |[],t,b,_,ht,_=>by
  have: ¬t<top:=by simp only[sSm] at ht;omega
  rw[Zh4 this];exact⟨rfl,fun _ h=>by cases h⟩
 |d::l,t,b,hs,ht,hh=>by
  have hd:=hs d (List.mem_cons_self ..);have hl:ZdZ l:=fun y hy=>hs y (List.mem_cons_of_mem _ hy);have hp:=Zad (c:=c) hl
  cases hd2:ZU c d with
  |true=>
   have e1:sSm c (d::l)=ndSz d+sSm c l:=by simp[sSm,hd2]
   have e3:plL c t b (d::l)=t::plL c (t+ndSz d) b l:=by simp[plL,hd2]
   have e4:smL c t (d::l)=t::smL c (t+ndSz d) l:=by simp[smL,hd2]
   rw[e1] at ht;rw[e3,List.zip_cons_cons] at hh;obtain⟨a1,a2⟩:=hh (t,d) (List.mem_cons_self ..) hd2;simp only at a1 a2;have hsw:swE h top t=0:=ZuB a1 (by rw[a2];omega);obtain⟨i1,i2⟩:=ZoE (c:=c) H (top:=top) l (t+ndSz d) b hl (by omega) fun q hq=>hh q (List.mem_cons_of_mem _ hq);rw[ZlV H (by omega) hsw,a2,e4];refine⟨?_,fun y hy=>?_⟩
   · show(item h top t).at_::ats _=_
     rw[Zba,i1]
   · rcases List.mem_cons.1 hy with rfl|hy
     · rw[ZfX];exact hsw
     · exact i2 y hy
  |false=>
   have e1:sSm c (d::l)=sSm c l:=by simp[sSm,hd2]
   have e3:plL c t b (d::l)=b::plL c t (b+ndSz d) l:=by simp[plL,hd2]
   have e4:smL c t (d::l)=smL c t l:=by simp[smL,hd2]
   rw[e1] at ht;rw[e3,List.zip_cons_cons] at hh;rw[e4];exact ZoE (c:=c) H (top:=top) l t (b+ndSz d) hl ht fun q hq=>hh q (List.mem_cons_of_mem _ hq)
theorem Zkx {c:Cf}: ∀(ds:List Nd) (t b:Int) {p:Int},p∈smL c t ds→ ∃d,(p,d)∈(plL c t b ds).zip ds∧ZU c d=true
 |[],_,_,_,h=>by simp[smL] at h
 |d::l,t,b,p,h=>by
  cases hd2:ZU c d with
  |true=>
   have e3:plL c t b (d::l)=t::plL c (t+ndSz d) b l:=by simp[plL,hd2]
   have e4:smL c t (d::l)=t::smL c (t+ndSz d) l:=by simp[smL,hd2]
   rw[e4] at h;rw[e3,List.zip_cons_cons];rcases List.mem_cons.1 h with rfl|h
   · exact⟨d,List.mem_cons_self ..,hd2⟩
   · obtain⟨y,hy,h2⟩:=Zkx l (t+ndSz d) b h
     exact⟨y,List.mem_cons_of_mem _ hy,h2⟩
  |false=>
   have e3:plL c t b (d::l)=b::plL c t (b+ndSz d) l:=by simp[plL,hd2]
   have e4:smL c t (d::l)=smL c t l:=by simp[smL,hd2]
   rw[e4] at h;rw[e3,List.zip_cons_cons];obtain⟨y,hy,h2⟩:=Zkx l t (b+ndSz d) h;exact⟨y,List.mem_cons_of_mem _ hy,h2⟩
theorem ZjE {c:Cf}: ∀(ds:List Nd) (t b:Int) {x:Sp},x∈tbL c b ds→ ∃d,(x.1,d)∈(plL c t b ds).zip ds∧ZU c d=false∧x.2=ndSz d
 |[],_,_,_,h=>by simp[tbL] at h
 |d::l,t,b,x,h=>by
  cases hd2:ZU c d with
  |true=>
   have e3:plL c t b (d::l)=t::plL c (t+ndSz d) b l:=by simp[plL,hd2]
   have e4:tbL c b (d::l)=tbL c b l:=by simp[tbL,hd2]
   rw[e4] at h;rw[e3,List.zip_cons_cons];obtain⟨y,hy,h2⟩:=ZjE l (t+ndSz d) b h;exact⟨y,List.mem_cons_of_mem _ hy,h2⟩
  |false=>
   have e3:plL c t b (d::l)=b::plL c t (b+ndSz d) l:=by simp[plL,hd2]
   have e4:tbL c b (d::l)=(b,ndSz d)::tbL c (b+ndSz d) l:=by simp[tbL,hd2]
   rw[e4] at h;rw[e3,List.zip_cons_cons];rcases List.mem_cons.1 h with rfl|h
   · exact⟨d,List.mem_cons_self ..,hd2,rfl⟩
   · obtain⟨y,hy,h2⟩:=ZjE l t (b+ndSz d) h
     exact⟨y,List.mem_cons_of_mem _ hy,h2⟩
theorem ZhC {c:Cf}: ∀(ds:List Nd) (b:Int),ZdZ ds→(∀x∈tbL c b ds,b≤x.1∧x.1+x.2≤b+sBg c ds∧1≤x.2∧x.2≤8193)∧(tbL c b ds).Pairwise (fun x y=>x.1+x.2≤y.1)∧ ∀p,b≤p→p<b+sBg c ds→ ∃x∈tbL c b ds,x.1≤p∧p<x.1+x.2
 |[],b,_=>⟨(fun _ h=>by cases h),List.Pairwise.nil,fun p h1 h2=>by simp only[sBg] at h2;omega⟩
 |d::l,b,hs=>by
  have hd:=hs d (List.mem_cons_self ..);have hl:ZdZ l:=fun y hy=>hs y (List.mem_cons_of_mem _ hy);have hp:=Zad (c:=c) hl
  cases hd2:ZU c d with
  |true=>
   have e2:sBg c (d::l)=sBg c l:=by simp[sBg,hd2]
   have e4:tbL c b (d::l)=tbL c b l:=by simp[tbL,hd2]
   rw[e2,e4];exact ZhC l b hl
  |false=>
   have e2:sBg c (d::l)=ndSz d+sBg c l:=by simp[sBg,hd2]
   have e4:tbL c b (d::l)=(b,ndSz d)::tbL c (b+ndSz d) l:=by simp[tbL,hd2]
   rw[e2,e4];obtain⟨i1,i2,i3⟩:=ZhC (c:=c) l (b+ndSz d) hl;refine⟨fun x hx=>?_,List.pairwise_cons.2 ⟨fun x hx=>(i1 x hx).1,i2⟩,fun p h1 h2=>?_⟩
   · rcases List.mem_cons.1 hx with rfl|hx
     · simp only;omega
     · have:=i1 x hx;omega
   · by_cases hq:p<b+ndSz d
     · exact⟨_,List.mem_cons_self ..,h1,hq⟩
     · obtain⟨x,hx,h3⟩:=i3 p (by omega) (by omega)
       exact⟨x,List.mem_cons_of_mem _ hx,h3⟩
end Go.Proofs.YtknoncenblehkaaGreatDoor
