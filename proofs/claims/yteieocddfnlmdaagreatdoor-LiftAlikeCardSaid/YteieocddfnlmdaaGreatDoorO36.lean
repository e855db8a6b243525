/- The document's own pairing of two graphs, pair by pair: it b -/
import Derived.Test.YteieocddfnlmdaaGreatDoorO35
set_option maxRecDepth 100000
set_option maxHeartbeats 32000000
set_option linter.unusedSimpArgs false
set_option linter.unusedVariables false
namespace Go.Proofs.YteieocddfnlmdaaGreatDoor
open Go.RowKit Go.Lib
structure MSt where
 pa:List Int
 pb:List Int
 bad:Bool
def MSt.no (s:MSt):MSt:={s with bad:=true}
def MSt.put (s:MSt) (i k:Int):MSt:={s with pa:=s.pa.set i.toNat k,pb:=s.pb.set k.toNat i}
def Za0 (r:Int→Int→MSt→MSt):List Sp→List Sp→MSt→MSt
 |x::l,y::m,s=>if s.bad=true then s else if x.1≠y.1∨(x.1≠2∧x≠y) then s.no else Za0 r l m (if x.1=2 then r x.2 y.2 s else s)
 |[],_,s=>s
 |_::_,[],s=>s
def Zd9 (r:Int→Int→MSt→MSt) (l m:List Sp) (s:MSt):MSt:=Za0 r l m (if l.length=m.length then s else s.no)
def Zbl (a b:Gr):Nat→Int→Int→MSt→MSt
 |0,_,_,s=>s
 |n+1,i,k,s=>
  if s.pa.getD i.toNat (-1)=k∧s.pb.getD k.toNat (-1)=i then s
  else if 0≤s.pa.getD i.toNat (-1)∨0≤s.pb.getD k.toNat (-1) then s.no
  else if(Zax a i).kd≠(Zax b k).kd∨(Zax a i).rs≠(Zax b k).rs then(s.put i k).no
  else Zd9 (Zbl a b n) (Zax a i).fs (Zax b k).fs (s.put i k)
def MSt.first (a b:Gr):MSt:=⟨List.replicate a.nd.length (-1),List.replicate b.nd.length (-1),false⟩
def Zce (a b:Gr):MSt:=Zd9 (Zbl a b (a.nd.length+1)) a.rt b.rt (MSt.first a b)
def PT (s:MSt) (i k:Int):Prop:= ∃x y:Nat,i=x∧k=y∧s.pa[x]? =some (y:Int)
structure MInv (a b:Gr) (s:MSt):Prop where
 tl:s.pa.length=a.nd.length
 fl:s.pb.length=b.nd.length
 t: ∀(x:Nat) k,s.pa[x]? =some k→k= -1∨ ∃y:Nat,k=y∧s.pb[y]? =some (x:Int)
 f: ∀(y:Nat) i,s.pb[y]? =some i→i= -1∨ ∃x:Nat,i=x∧s.pa[x]? =some (y:Int)
section
variable {a b:Gr} {s:MSt}
theorem MInv.no (h:MInv a b s):MInv a b s.no:=⟨h.tl,h.fl,h.t,h.f⟩
theorem MInv.pb_of (h:MInv a b s) {x y:Nat} (e:s.pa[x]? =some (y:Int)):s.pb[y]? =some (x:Int):=by
 rcases h.t x y e with e1|⟨y',e1,e2⟩
 · omega
 · have:y'=y:=by omega
   subst this;exact e2
theorem MInv.fn (h:MInv a b s) {i k k':Int} (h1:PT s i k) (h2:PT s i k'):k=k':=by
 obtain⟨x,y,rfl,rfl,e1⟩:=h1;obtain⟨x',y',e,rfl,e2⟩:=h2
 have:x=x':=by omega
 subst this;exact Yp (e1.symm.trans e2)
theorem MInv.inj (h:MInv a b s) {i i' k:Int} (h1:PT s i k) (h2:PT s i' k):i=i':=by
 obtain⟨x,y,rfl,rfl,e1⟩:=h1;obtain⟨x',y',rfl,e,e2⟩:=h2
 have:y=y':=by omega
 subst this;exact Yp ((h.pb_of e1).symm.trans (h.pb_of e2))
theorem MInv.rng (h:MInv a b s) {i k:Int} (h1:PT s i k):(0≤i∧i<(a.nd.length:Int))∧0≤k∧k<(b.nd.length:Int):=by
 obtain⟨x,y,rfl,rfl,e1⟩:=h1;have h2:=(Yk.1 e1).1;have h3:=(Yk.1 (h.pb_of e1)).1;rw[h.tl] at h2;rw[h.fl] at h3;omega
theorem MInv.put (h:MInv a b s) {x y:Nat} (hx:s.pa[x]? =some (-1)) (hy:s.pb[y]? =some (-1)):MInv a b (s.put x y)∧(∀i k,PT (s.put x y) i k↔PT s i k∨(i=x∧k=y)):=by
 have lx:=(Yk.1 hx).1;have ly:=(Yk.1 hy).1
 have gt: ∀j:Nat,(s.put x y).pa[j]? =if x=j then some (y:Int) else s.pa[j]? :=fun j=>by
  show(s.pa.set ((x:Int)).toNat (y:Int))[j]? =_;rw[show((x:Int)).toNat=x from rfl,List.getElem?_set];by_cases e:x=j
  · rw[if_pos e,if_pos e,if_pos lx]
  · rw[if_neg e,if_neg e]
 have gf: ∀j:Nat,(s.put x y).pb[j]? =if y=j then some (x:Int) else s.pb[j]? :=fun j=>by
  show(s.pb.set ((y:Int)).toNat (x:Int))[j]? =_;rw[show((y:Int)).toNat=y from rfl,List.getElem?_set];by_cases e:y=j
  · rw[if_pos e,if_pos e,if_pos ly]
  · rw[if_neg e,if_neg e]
 refine⟨⟨by show(s.pa.set _ _).length=_;rw[List.length_set];exact h.tl,by show(s.pb.set _ _).length=_;rw[List.length_set];exact h.fl,fun j k e=>?_,fun j i e=>?_⟩,fun i k=>?_⟩
 · rw[gt] at e
   by_cases e1:x=j
   · rw[if_pos e1] at e
     obtain rfl:=Yp e;exact .inr ⟨y,rfl,by rw[gf,if_pos rfl,e1]⟩
   · rw[if_neg e1] at e
     rcases h.t j k e with e2|⟨y',e2,e3⟩
     · exact .inl e2
     · refine .inr ⟨y',e2,?_⟩
       rw[gf,if_neg (fun e4=>?_)]
       · exact e3
       · subst e4
         rw[hy] at e3
         have:=Yp e3
         omega
 · rw[gf] at e
   by_cases e1:y=j
   · rw[if_pos e1] at e
     obtain rfl:=Yp e;exact .inr ⟨x,rfl,by rw[gt,if_pos rfl,e1]⟩
   · rw[if_neg e1] at e
     rcases h.f j i e with e2|⟨x',e2,e3⟩
     · exact .inl e2
     · refine .inr ⟨x',e2,?_⟩
       rw[gt,if_neg (fun e4=>?_)]
       · exact e3
       · subst e4
         rw[hx] at e3
         have:=Yp e3
         omega
 · constructor
   · rintro⟨x',y',rfl,rfl,e⟩
     rw[gt] at e;by_cases e1:x=x'
     · rw[if_pos e1] at e
       have:=Yp e
       exact .inr ⟨by omega,by omega⟩
     · rw[if_neg e1] at e
       exact .inl ⟨x',y',rfl,rfl,e⟩
   · rintro(⟨x',y',rfl,rfl,e⟩|⟨rfl,rfl⟩)
     · refine⟨x',y',rfl,rfl,?_⟩
       rw[gt,if_neg (fun e4=>?_)]
       · exact e
       · subst e4
         rw[hx] at e
         have:=Yp e
         omega
     · exact⟨x,y,rfl,rfl,by rw[gt,if_pos rfl]⟩
theorem MInv.ways (h:MInv a b s) {x y:Nat} (hx:x<a.nd.length) (hy:y<b.nd.length):
 (s.pa.getD x (-1)=y∧s.pb.getD y (-1)=x∧PT s x y)∨(¬(s.pa.getD x (-1)=y∧s.pb.getD y (-1)=x)∧(0≤s.pa.getD x (-1)∨0≤s.pb.getD y (-1))∧((∃y':Nat,y'≠y∧PT s x y')∨ ∃x':Nat,x'≠x∧PT s x' y))∨
   (¬(s.pa.getD x (-1)=y∧s.pb.getD y (-1)=x)∧ ¬(0≤s.pa.getD x (-1)∨0≤s.pb.getD y (-1))∧s.pa[x]? =some (-1)∧s.pb[y]? =some (-1)):=by
 obtain⟨k,hk⟩: ∃k,s.pa[x]? =some k:=⟨_,Ya (by rw[h.tl];exact hx)⟩
 obtain⟨i,hi⟩: ∃i,s.pb[y]? =some i:=⟨_,Ya (by rw[h.fl];exact hy)⟩
 have e1:s.pa.getD x (-1)=k:=by rw[Yn,hk];rfl
 have e2:s.pb.getD y (-1)=i:=by rw[Yn,hi];rfl
 rw[e1,e2,hk,hi]
 rcases h.t x k hk with rfl|⟨y',rfl,q1⟩
 · rcases h.f y i hi with rfl|⟨x',rfl,q2⟩
   · exact .inr (.inr ⟨by omega,by omega,rfl,rfl⟩)
   · refine .inr (.inl ⟨by omega,by omega,.inr ⟨x',fun e=>?_,x',y,rfl,rfl,q2⟩⟩)
     subst e;rw[q2] at hk
     have:=Yp hk
     omega
 · by_cases e:y'=y
   · subst e
     have:i=(x:Int):=Yp (hi.symm.trans q1)
     exact .inl ⟨rfl,this,x,y',rfl,rfl,hk⟩
   · exact .inr (.inl ⟨by omega,by omega,.inl ⟨y',e,x,y',rfl,rfl,hk⟩⟩)
end
section
variable {a b:Gr} {f:Int→Int→Prop}
structure MGood (a b:Gr) (f:Int→Int→Prop) (s:MSt):Prop where
 inv:MInv a b s
 sub: ∀i k,PT s i k→f i k
 ok:s.bad=false
theorem ZfM {r:Int→Int→MSt→MSt} (hr: ∀i k s,MGood a b f s→f i k→MGood a b f (r i k s)): ∀(l m:List Sp) (s:MSt),ZcX (ZpE f) l m→MGood a b f s→MGood a b f (Za0 r l m s)
 |[],[],s,_,h=>h
 |x::l,y::m,s,hv,h=>by
  rw[Za0,if_neg (by rw[h.ok];decide)];obtain⟨h1,h2,h3⟩:=hv.1
  rw[if_neg (by
   rintro(e|⟨e1,e2⟩)
   · exact e h1
   · exact e2 (Prod.ext h1 (h3 e1)))]
  refine ZfM hr l m _ hv.2 ?_;by_cases e:x.1=2
  · rw[if_pos e];exact hr _ _ _ h (h2 e)
  · rw[if_neg e];exact h
 |[],_::_,_,hv,_=>hv.elim
 |_::_,[],_,hv,_=>hv.elim
theorem Ziu (I:Iso a b f): ∀(n:Nat) (i k:Int) (s:MSt),MGood a b f s→f i k→MGood a b f (Zbl a b n i k s)
 |0,_,_,s,h,_=>h
 |n+1,i,k,s,h,hf=>by
  obtain⟨⟨r1,r2⟩,r3,r4⟩:=I.rng i k hf
  obtain⟨x,rfl⟩: ∃x:Nat,i=x:=⟨i.toNat,by omega⟩
  obtain⟨y,rfl⟩: ∃y:Nat,k=y:=⟨k.toNat,by omega⟩
  rw[Zbl,show((x:Int)).toNat=x from rfl,show((y:Int)).toNat=y from rfl]
  rcases h.inv.ways (x:=x) (y:=y) (by omega) (by omega) with⟨e1,e2, -⟩|⟨e1,e2,e3⟩|⟨e1,e2,e3,e4⟩
  · rw[if_pos ⟨e1,e2⟩];exact h
  · exfalso
    rcases e3 with⟨y',hne,hp⟩|⟨x',hne,hp⟩
    · have:=I.fn _ _ _ (h.sub _ _ hp) hf
      omega
    · have:=I.inj _ _ _ (h.sub _ _ hp) hf
      omega
  · obtain⟨n1,n2,n3⟩:=I.nd _ _ hf
    rw[if_neg e1,if_neg e2,if_neg (fun e=>e.elim (fun e=>e n1) (fun e=>e n2))];obtain⟨p1,p2⟩:=h.inv.put e3 e4;unfold Zd9;rw[if_pos n3.len];refine ZfM (Ziu I n) _ _ _ n3 ⟨p1,fun i k hp=>?_,h.ok⟩
    rcases(p2 i k).1 hp with h'|⟨rfl,rfl⟩
    · exact h.sub _ _ h'
    · exact hf
end
theorem Zg4 (n:Nat) (x:Nat) (k:Int) (h:(List.replicate n (-1:Int))[x]? =some k):k= -1:=by
 obtain⟨h1,h2⟩:=Yk.1 h;rw[← h2];simp
theorem Zdy (a b:Gr):MInv a b (.first a b)∧ ∀i k, ¬PT (.first a b) i k:=by
 refine⟨⟨by simp[MSt.first],by simp[MSt.first],fun x k h=>.inl (Zg4 _ _ _ h),fun x k h=>.inl (Zg4 _ _ _ h)⟩,?_⟩;rintro i k ⟨x,y,rfl,rfl,h⟩
 have:=Zg4 _ _ _ h
 omega
theorem ZgJ {a b:Gr} {f:Int→Int→Prop} (I:Iso a b f):MGood a b f (Zce a b):=by
 obtain⟨h1,h2⟩:=Zdy a b;unfold Zce Zd9;rw[if_pos I.rt.len];exact ZfM (Ziu I _) _ _ _ I.rt ⟨h1,fun i k h=>absurd h (h2 i k),rfl⟩
def Za9 (n:Nat) (l:List Sp):Prop:= ∀v∈l,v.1=2→0≤v.2∧v.2<(n:Int)
section
variable {a b:Gr}
structure MStep (a b:Gr) (s r:MSt):Prop where
 inv:MInv a b r
 sub: ∀i k,PT s i k→PT r i k
 new: ∀i k,PT r i k→PT s i k∨ZuB (PT r) (Zax a i) (Zax b k)
 cnt:r.pa.count (-1)≤s.pa.count (-1)
theorem Zpv {f g:Int→Int→Prop} (h: ∀i k,f i k→g i k) {x y:Sp} (hv:ZpE f x y):ZpE g x y:=⟨hv.1,fun e=>h _ _ (hv.2.1 e),hv.2.2⟩
theorem ZnV {f g:Int→Int→Prop} (h: ∀i k,f i k→g i k) {d e:Nd} (hv:ZuB f d e):ZuB g d e:=⟨hv.1,hv.2.1,hv.2.2.mono fun _ _ _ _=>Zpv h⟩
theorem MStep.refl {s:MSt} (h:MInv a b s):MStep a b s s:=⟨h,fun _ _ h=>h,fun _ _ h=>.inl h,Yj _⟩
theorem MStep.trans {s r q:MSt} (h:MStep a b s r) (k:MStep a b r q):MStep a b s q:=
 ⟨k.inv,fun i j hp=>k.sub _ _ (h.sub _ _ hp),fun i j hp=>by
   rcases k.new i j hp with h1|h1
   · rcases h.new i j h1 with h2|h2
     · exact .inl h2
     · exact .inr (ZnV k.sub h2)
   · exact .inr h1,Yi k.cnt h.cnt⟩
theorem ZbU (r:Int→Int→MSt→MSt): ∀(l m:List Sp) (s:MSt),s.bad=true→Za0 r l m s=s
 |[],_,s,h=>by rw[Za0]
 |_::_,[],s,h=>by rw[Za0]
 |_::_,_::_,s,h=>by rw[Za0,if_pos h]
theorem Zdu {r:Int→Int→MSt→MSt} {n:Nat} (hr: ∀i k s,MInv a b s→s.pa.count (-1)<n→(0≤i∧i<(a.nd.length:Int))→(0≤k∧k<(b.nd.length:Int))→s.bad=false→(r i k s).bad=false→MStep a b s (r i k s)∧PT (r i k s) i k):
 ∀(l m:List Sp) (s:MSt),MInv a b s→s.pa.count (-1)<n→Za9 a.nd.length l→Za9 b.nd.length m→l.length=m.length→(Za0 r l m s).bad=false→MStep a b s (Za0 r l m s)∧ZcX (ZpE (PT (Za0 r l m s))) l m
 |[],[],s,h,_,_,_,_,hb=>⟨by rw[Za0];exact .refl h,trivial⟩
 |x::l,y::m,s,h,hc,hl,hm,hlen,hb=>by
  have hs:s.bad=false:=by
   cases e:s.bad with
   |false=>rfl
   |true=>rw[ZbU r _ _ _ e,e] at hb;cases hb
  rw[Za0,if_neg (by rw[hs];decide)] at hb ⊢;by_cases e1:x.1≠y.1∨(x.1≠2∧x≠y)
  · rw[if_pos e1] at hb;cases hb
  · rw[if_neg e1] at hb ⊢
    have hxy:x.1=y.1:=Classical.byContradiction fun e=>e1 (.inl e);have hl':Za9 a.nd.length l:=fun v hv=>hl v (List.mem_cons_of_mem _ hv);have hm':Za9 b.nd.length m:=fun v hv=>hm v (List.mem_cons_of_mem _ hv)
    have hlen':l.length=m.length:=by simpa using hlen
    by_cases e2:x.1=2
    · rw[if_pos e2] at hb ⊢
      have hb2:(r x.2 y.2 s).bad=false:=by
       cases e:(r x.2 y.2 s).bad with
       |false=>rfl
       |true=>rw[ZbU r _ _ _ e,e] at hb;cases hb
      obtain⟨q1,q2⟩:=hr x.2 y.2 s h hc (hl x List.mem_cons_self e2) (hm y List.mem_cons_self (hxy▸e2)) hs hb2;obtain⟨q3,q4⟩:=Zdu hr l m _ q1.inv (Nat.lt_of_le_of_lt q1.cnt hc) hl' hm' hlen' hb;exact⟨q1.trans q3,⟨hxy,fun _=>q3.sub _ _ q2,fun e=>absurd e2 e⟩,q4⟩
    · rw[if_neg e2] at hb ⊢
      obtain⟨q3,q4⟩:=Zdu hr l m s h hc hl' hm' hlen' hb;refine⟨q3,⟨hxy,fun e=>absurd e e2,fun _=>?_⟩,q4⟩
      have:x=y:=Classical.byContradiction fun e=>e1 (.inr ⟨e2,e⟩)
      rw[this]
 |[],_::_,_,_,_,_,_,hlen,_=>by simp at hlen
 |_::_,[],_,_,_,_,_,hlen,_=>by simp at hlen
theorem leads_nd {g:Gr} (hg:ZC g=true) {x:Int} (h:0≤x∧x<(g.nd.length:Int)):Za9 g.nd.length (Zax g x).fs:=fun v hv h2=>by
 have h1:=(ZbD.1 hg).1 _ (ZqF h)
 have:=(Zb9.1 h1).2.2.2 v hv
 unfold vOk ZbC at this;rw[h2] at this;simp[vin] at this;omega
theorem ZeQ {g:Gr} (hg:ZC g=true):Za9 g.nd.length g.rt:=fun v hv h2=>by
 have:=(ZbD.1 hg).2 v hv
 unfold vOk ZbC at this;rw[h2] at this;simp[vin] at this;omega
theorem ZfA {l:List Int} {x:Nat} {y:Int} (h:l[x]? =some (-1)) (hy:y≠ -1):(l.set x y).count (-1)+1=l.count (-1):=by
 induction l generalizing x with
 |nil=>cases h
 |cons z l ih=>
  cases x with
  |zero=>
   obtain rfl:z= -1:=by simpa using h
   rw[Yd,List.count_cons_of_ne hy,List.count_cons_self]
  |succ x=>
   rw[Yc,List.count_cons,List.count_cons]
   have:=ih (x:=x) (by simpa using h)
   omega
theorem Zi4 (ha:ZC a=true) (hb:ZC b=true): ∀(n:Nat) (i k:Int) (s:MSt),MInv a b s→s.pa.count (-1)<n→(0≤i∧i<(a.nd.length:Int))→(0≤k∧k<(b.nd.length:Int))→s.bad=false→(Zbl a b n i k s).bad=false→MStep a b s (Zbl a b n i k s)∧PT (Zbl a b n i k s) i k
 |0,_,_,_,_,h,_,_,_,_=>absurd h (Nat.not_lt_zero _)
 |n+1,i,k,s,h,hc,hi,hk,hs,hbad=>by
  obtain⟨x,rfl⟩: ∃x:Nat,i=x:=⟨i.toNat,by omega⟩
  obtain⟨y,rfl⟩: ∃y:Nat,k=y:=⟨k.toNat,by omega⟩
  rw[Zbl,show((x:Int)).toNat=x from rfl,show((y:Int)).toNat=y from rfl] at hbad ⊢
  rcases h.ways (x:=x) (y:=y) (by omega) (by omega) with⟨e1,e2,e3⟩|⟨e1,e2,e3⟩|⟨e1,e2,e3,e4⟩
  · rw[if_pos ⟨e1,e2⟩];exact⟨.refl h,e3⟩
  · rw[if_neg e1,if_pos e2] at hbad;cases hbad
  · rw[if_neg e1,if_neg e2] at hbad ⊢
    by_cases e5:(Zax a (x:Int)).kd≠(Zax b (y:Int)).kd∨(Zax a (x:Int)).rs≠(Zax b (y:Int)).rs
    · rw[if_pos e5] at hbad;cases hbad
    · rw[if_neg e5] at hbad ⊢
      obtain⟨p1,p2⟩:=h.put e3 e4;unfold Zd9 at hbad ⊢;by_cases e6:(Zax a (x:Int)).fs.length=(Zax b (y:Int)).fs.length
      · rw[if_pos e6] at hbad ⊢
        have hcnt:(s.put x y).pa.count (-1)+1=s.pa.count (-1):=ZfA (x:=x) e3 (by omega);obtain⟨q1,q2⟩:=Zdu (Zi4 ha hb n) _ _ _ p1 (by omega) (leads_nd ha hi) (leads_nd hb hk) e6 hbad;have hxy:=q1.sub x y ((p2 x y).2 (.inr ⟨rfl,rfl⟩));refine⟨⟨q1.inv,fun i k hp=>q1.sub _ _ ((p2 i k).2 (.inl hp)),fun i k hp=>?_,by have:=q1.cnt;omega⟩,hxy⟩;rcases q1.new i k hp with h1|h1
        · rcases(p2 i k).1 h1 with h2|⟨rfl,rfl⟩
          · exact .inl h2
          · refine .inr ⟨Classical.byContradiction fun e=>e5 (.inl e),Classical.byContradiction fun e=>e5 (.inr e),q2⟩
        · exact .inr h1
      · rw[if_neg e6,ZbU _ _ _ _ rfl] at hbad
        cases hbad
theorem Zg0 {r:Int→Int→MSt→MSt} (hr: ∀i k s,MInv a b s→(0≤i∧i<(a.nd.length:Int))→(0≤k∧k<(b.nd.length:Int))→MInv a b (r i k s)∧(r i k s).pa.count (-1)≤s.pa.count (-1)):
 ∀(l m:List Sp) (s:MSt),MInv a b s→Za9 a.nd.length l→Za9 b.nd.length m→MInv a b (Za0 r l m s)∧(Za0 r l m s).pa.count (-1)≤s.pa.count (-1)
 |[],_,s,h,_,_=>by rw[Za0];exact⟨h,Yj _⟩
 |_::_,[],s,h,_,_=>by rw[Za0];exact⟨h,Yj _⟩
 |x::l,y::m,s,h,hl,hm=>by
  rw[Za0];by_cases e:s.bad=true
  · rw[if_pos e];exact⟨h,Yj _⟩
  · rw[if_neg e]
    by_cases e1:x.1≠y.1∨(x.1≠2∧x≠y)
    · rw[if_pos e1];exact⟨h.no,Yj _⟩
    · rw[if_neg e1]
      have hxy:x.1=y.1:=Classical.byContradiction fun e=>e1 (.inl e);have hl':Za9 a.nd.length l:=fun v hv=>hl v (List.mem_cons_of_mem _ hv);have hm':Za9 b.nd.length m:=fun v hv=>hm v (List.mem_cons_of_mem _ hv);by_cases e2:x.1=2
      · rw[if_pos e2]
        obtain⟨q1,q2⟩:=hr x.2 y.2 s h (hl x List.mem_cons_self e2) (hm y List.mem_cons_self (hxy▸e2));obtain⟨q3,q4⟩:=Zg0 hr l m _ q1 hl' hm';exact⟨q3,Yi q4 q2⟩
      · rw[if_neg e2]
        exact Zg0 hr l m s h hl' hm'
theorem Zkw (ha:ZC a=true) (hb:ZC b=true): ∀(n:Nat) (i k:Int) (s:MSt),MInv a b s→(0≤i∧i<(a.nd.length:Int))→(0≤k∧k<(b.nd.length:Int))→MInv a b (Zbl a b n i k s)∧(Zbl a b n i k s).pa.count (-1)≤s.pa.count (-1)
 |0,_,_,_,h,_,_=>⟨h,Yj _⟩
 |n+1,i,k,s,h,hi,hk=>by
  obtain⟨x,rfl⟩: ∃x:Nat,i=x:=⟨i.toNat,by omega⟩
  obtain⟨y,rfl⟩: ∃y:Nat,k=y:=⟨k.toNat,by omega⟩
  rw[Zbl,show((x:Int)).toNat=x from rfl,show((y:Int)).toNat=y from rfl]
  rcases h.ways (x:=x) (y:=y) (by omega) (by omega) with⟨e1,e2,e3⟩|⟨e1,e2,e3⟩|⟨e1,e2,e3,e4⟩
  · rw[if_pos ⟨e1,e2⟩];exact⟨h,Yj _⟩
  · rw[if_neg e1,if_pos e2];exact⟨h.no,Yj _⟩
  · rw[if_neg e1,if_neg e2]
    obtain⟨p1,p2⟩:=h.put e3 e4;have hcnt:(s.put x y).pa.count (-1)+1=s.pa.count (-1):=ZfA (x:=x) e3 (by omega);by_cases e5:(Zax a (x:Int)).kd≠(Zax b (y:Int)).kd∨(Zax a (x:Int)).rs≠(Zax b (y:Int)).rs
    · rw[if_pos e5];exact⟨p1.no,by show(s.put x y).pa.count (-1)≤_;omega⟩
    · rw[if_neg e5]
      unfold Zd9;by_cases e6:(Zax a (x:Int)).fs.length=(Zax b (y:Int)).fs.length
      · rw[if_pos e6]
        obtain⟨q1,q2⟩:=Zg0 (Zkw ha hb n) _ _ _ p1 (leads_nd ha hi) (leads_nd hb hk);exact⟨q1,by omega⟩
      · rw[if_neg e6,ZbU _ _ _ _ rfl]
        exact⟨p1.no,by show(s.put x y).pa.count (-1)≤_;omega⟩
theorem Zi5 (ha:ZC a=true) (hb:ZC b=true) (h:(Zce a b).bad=false):Iso a b (PT (Zce a b)):=by
 obtain⟨h1,h2⟩:=Zdy a b
 have hc:(MSt.first a b).pa.count (-1)<a.nd.length+1:=by
  have:=List.count_le_length (a:=(-1:Int)) (l:=(MSt.first a b).pa)
  rw[h1.tl] at this;omega
 unfold Zce Zd9 at h ⊢;by_cases e:a.rt.length=b.rt.length
 · rw[if_pos e] at h ⊢
   obtain⟨q1,q2⟩:=Zdu (Zi4 ha hb (a.nd.length+1)) _ _ _ h1 hc (ZeQ ha) (ZeQ hb) e h;refine⟨q2,fun i k hp=>?_,fun i k hp=>q1.inv.rng hp,fun i k k' h1 h2=>q1.inv.fn h1 h2,fun i i' k h1 h2=>q1.inv.inj h1 h2⟩;rcases q1.new i k hp with h3|h3
   · exact absurd h3 (h2 i k)
   · exact h3
 · rw[if_neg e,ZbU _ _ _ _ rfl] at h
   cases h
theorem Znx (ha:ZC a=true) (hb:ZC b=true):(Zce a b).bad=!Zap a b:=by
 cases h:(Zce a b).bad with
 |false=>rw[Zqk ha hb (Zi5 ha hb h)];rfl
 |true=>
  cases h2:Zap a b with
  |false=>rfl
  |true=>
   obtain⟨-, -,he⟩:=ZdL.1 h2
   have:=(ZgJ (Zi0 ha hb he).2).ok
   rw[this] at h
   cases h
theorem ZpL (h:Zap a b=true):(Zce a b).pa=toL a b:=by
 obtain⟨ha,hb,he⟩:=ZdL.1 h;obtain⟨hlen,I⟩:=Zi0 ha hb he;have G:=ZgJ I;have J:=Zi5 ha hb G.ok
 have hto:(toL a b).length=a.nd.length:=by simp[toL]
 have hall: ∀i,Rch a i→ ∃k,PT (Zce a b) i k:=by
  intro i hi
  induction hi with
  |root hv h2=>
   obtain⟨u,hu,hr⟩:=J.rt.left hv;exact⟨_,hr.2.1 h2⟩
  |next hx hv h2 ih=>
   obtain⟨k,hk⟩:=ih;obtain⟨u,hu,hr⟩:=(J.nd _ _ hk).2.2.left hv;exact⟨_,hr.2.1 h2⟩
 apply List.ext_getElem?;intro x;by_cases hx:x<a.nd.length
 · obtain⟨k,e1,e2⟩:=ZuT ha hlen hx
   obtain⟨t,ht⟩: ∃t,(Zce a b).pa[x]? =some t:=⟨_,Ya (by rw[G.inv.tl];exact hx)⟩
   rw[e1,ht]
   rcases e2 with⟨hm,hp⟩|⟨hm,rfl⟩
   · obtain⟨k',hk'⟩:=hall _ ((Ze5 ha _).1 hm)
     have:=I.fn _ _ _ hp (G.sub _ _ hk')
     subst this;obtain⟨x',y',e3,rfl,e4⟩:=hk'
     have:x=x':=by omega
     subst this;rw[← ht,e4]
   · rcases G.inv.t x t ht with rfl|⟨y,rfl, -⟩
     · rfl
     · obtain⟨j,e3, -⟩:=G.sub _ _ ⟨x,y,rfl,rfl,ht⟩
       exact absurd (Yo e3) hm
 · rw[List.getElem?_eq_none (by rw[G.inv.tl];omega),List.getElem?_eq_none (by rw[hto];omega)]
end
end Go.Proofs.YteieocddfnlmdaaGreatDoor
