/- Plans over a graph: the state of a plan, one meeting, one lo -/
import Derived.Test.YtknoncenblehkaaGreatDoorF23
set_option maxRecDepth 100000
set_option maxHeartbeats 32000000
set_option linter.unusedSimpArgs false
set_option linter.unusedVariables false
namespace Go.Proofs.YtknoncenblehkaaGreatDoor
open Go.RowKit
structure PSt where
 small:List Int
 begins:List Int
 looked:List Bool
 large:List Int
 pile:List Int
 top:Int
def PSt.none:PSt:=⟨[],[],[],[],[],0⟩
def Za7 (g:Gr) (x:Int):Nd:=g.nd.getD x.toNat noNd
def Zcb (g:Gr) (x:Int):List Sp:=(Za7 g x).fs
def PSt.met (s:PSt):List Int:=s.small++s.large
def Z1 (v:Sp) (s:PSt):Bool:=decide (v.1=2)&&(!decide (v.2∈s.small)&&!decide (v.2∈s.large))
def ZJ (g:Gr) (lim:Int) (v:Sp) (s:PSt):PSt:=
 if Z1 v s=true then
  if lim<ndSz (Za7 g v.2) then{s with large:=s.large++[v.2],pile:=s.pile++[v.2]}
  else{s with small:=s.small++[v.2],begins:=s.begins++[s.top],looked:=s.looked++[false],top:=wrap64 (s.top+ndSz (Za7 g v.2))}
 else s
def ZbN (g:Gr) (lim:Int) (v:Sp) (s:PSt):Bool:=Z1 v s&&!decide (lim<ndSz (Za7 g v.2))
def PSt.mark (s:PSt) (i:Nat):PSt:={s with looked:=s.looked.set i true}
def ZaA (g:Gr) (lim:Int):List Sp→PSt→PSt
 |[],s=>s
 |v::l,s=>ZaA g lim l (ZJ g lim v s)
def lookD (g:Gr) (lim:Int):Nat→List Sp→PSt→PSt
 |_,[],s=>s
 |0,v::l,s=>lookD g lim 0 l (ZJ g lim v s)
 |n+1,v::l,s=>lookD g lim (n+1) l (if ZbN g lim v s=true then lookD g lim n (Zcb g v.2) ((ZJ g lim v s).mark s.small.length) else ZJ g lim v s)
termination_by n l=>(n,l.length)
def Z8 (g:Gr) (lim order:Int) (l:List Sp) (s:PSt):PSt:=if order=1 then lookD g lim (g.nd.length+1) l s else ZaA g lim l s
def Zct (p:Int→Bool) (s:PSt):Option Nat:=(List.range s.small.length).find? fun i=>!s.looked.getD i true&&p (s.begins.getD i 0)
def Zb2 (order block:Int) (s:PSt):Option Nat:=
 match (if order=2∧s.small≠[] then Zct (fun b=>decide (b.tdiv block=(s.begins.getLastD 0).tdiv block)) s else none) with
 |some i=>some i
 |none=>Zct (fun _=>true) s
def ZaI (g:Gr) (lim order block:Int) (s:PSt):Option PSt:=
 match Zb2 order block s with
 |some i=>some (Z8 g lim order (Zcb g (s.small.getD i 0)) (s.mark i))
 |none=>match s.pile.getLast? with
  |none=>none
  |some k=>some (Z8 g lim order (Zcb g k) {s with pile:=s.pile.dropLast})
def Zdb (g:Gr) (lim order block:Int):Nat→PSt→PSt
 |0,s=>s
 |n+1,s=>match ZaI g lim order block s with
  |none=>s
  |some s'=>Zdb g lim order block n s'
def Zb8 (g:Gr) (lim order block:Int):PSt:=Zdb g lim order block (g.nd.length+1) (Z8 g lim order g.rt .none)
inductive Rch (g:Gr):Int→Prop
 |root {v:Sp}:v∈g.rt→v.1=2→Rch g v.2
 |next {x:Int} {v:Sp}:Rch g x→v∈Zcb g x→v.1=2→Rch g v.2
structure Wf (g:Gr) (s:PSt):Prop where
 nodup:s.met.Nodup
 rng: ∀x∈s.met,0≤x∧x<(g.nd.length:Int)
 rch: ∀x∈s.met,Rch g x
 lk:s.looked.length=s.small.length
 bg:s.begins.length=s.small.length
 pl: ∀x∈s.pile,x∈s.large
 pn:s.pile.Nodup
def Okl (g:Gr) (l:List Sp):Prop:= ∀v∈l,v.1=2→(0≤v.2∧v.2<(g.nd.length:Int))∧Rch g v.2
def ZkK (s:PSt) (l:List Sp):Prop:= ∀v∈l,v.1=2→v.2∈s.met
theorem Znc {g:Gr} (hg:ZA g=true) {x:Int} (hx:Rch g x) (hr:0≤x∧x<(g.nd.length:Int)):Okl g (Zcb g x):=by
 intro v hv h2;refine⟨?_,.next hx hv h2⟩
 have hlt:x.toNat<g.nd.length:=by omega
 have hm:Za7 g x∈g.nd:=by
  unfold Za7;rw[Yn,Ya hlt];exact List.getElem_mem hlt
 obtain⟨-, -, -,h4⟩:=ZV.1 ((Zv.1 hg).1 _ hm);exact Zi0 (h4 v hv) h2
theorem Zuc {g:Gr} (hg:ZA g=true):Okl g g.rt:=fun v hv h2=>⟨Zi0 ((Zv.1 hg).2 v hv) h2,.root hv h2⟩
structure Ext (s s':PSt):Prop where
 sm:s.small<+:s'.small
 lg:s.large<+:s'.large
 lk:s.looked<+:s'.looked
 sz:s'.large.length+s.pile.length=s.large.length+s'.pile.length
 pl: ∀x∈s'.large,x∉s'.pile→x∈s.large∧x∉s.pile
 pp: ∀x∈s.pile,x∈s'.pile
theorem Ext.refl (s:PSt):Ext s s:=⟨List.prefix_refl _,List.prefix_refl _,List.prefix_refl _,rfl,fun _ h k=>⟨h,k⟩,fun _ h=>h⟩
theorem Ext.trans {a b c:PSt} (h:Ext a b) (k:Ext b c):Ext a c:=⟨h.sm.trans k.sm,h.lg.trans k.lg,h.lk.trans k.lk,(by have:=h.sz;have:=k.sz;omega),fun x hx hn=>by
 obtain⟨h1,h2⟩:=k.pl x hx hn
 exact h.pl x h1 h2,fun x hx=>k.pp x (h.pp x hx)⟩
theorem Ext.met {s s':PSt} (h:Ext s s') {x:Int} (hx:x∈s.met):x∈s'.met:=by
 unfold PSt.met at *;rcases Yr.1 hx with h1|h1
 · exact Yr.2 (.inl (h.sm.subset h1))
 · exact Yr.2 (.inr (h.lg.subset h1))
theorem Ext.metl {s s':PSt} (h:Ext s s') {l:List Sp} (k:ZkK s l):ZkK s' l:=fun v hv h2=>h.met (k v hv h2)
theorem ZrA {v:Sp} {s:PSt} (h:Z1 v s=true):v.1=2∧v.2∉s.met:=by
 unfold Z1 at h;simp only[Bool.and_eq_true,decide_eq_true_eq,Bool.not_eq_true',decide_eq_false_iff_not] at h;exact⟨h.1,fun hm=>by rcases Yr.1 hm with h1|h1;exact h.2.1 h1;exact h.2.2 h1⟩
theorem ZsJ {v:Sp} {s:PSt} (h: ¬Z1 v s=true) (h2:v.1=2):v.2∈s.met:=by
 unfold Z1 at h;unfold PSt.met;by_cases h1:v.2∈s.small
 · exact Yr.2 (.inl h1)
 · by_cases h3:v.2∈s.large
   · exact Yr.2 (.inr h3)
   · exact absurd (by simp[h1,h2,h3]) h
theorem ZgG {g:Gr} {lim:Int} {v:Sp} {s:PSt} (h:Wf g s) (hv:v.1=2→(0≤v.2∧v.2<(g.nd.length:Int))∧Rch g v.2):
 Wf g (ZJ g lim v s)∧Ext s (ZJ g lim v s)∧(v.1=2→v.2∈(ZJ g lim v s).met)∧(ZbN g lim v s=false→(ZJ g lim v s).small=s.small∧(ZJ g lim v s).looked=s.looked)∧
  (ZbN g lim v s=true→(ZJ g lim v s).small=s.small++[v.2]∧(ZJ g lim v s).looked=s.looked++[false]∧v.1=2):=by
 unfold ZJ ZbN;by_cases hn:Z1 v s=true
 · obtain⟨h2,hm⟩:=ZrA hn
   have hv:=hv h2;have hps:v.2∉s.pile:=fun hp=>hm (Yr.2 (.inr (h.pl _ hp)));rw[if_pos hn];by_cases hl:lim<ndSz (Za7 g v.2)
   · rw[if_pos hl]
     have hmet: ∀x,x∈s.small++(s.large++[v.2])↔x∈s.met∨x=v.2:=fun x=>by unfold PSt.met;simp[or_assoc]
     refine⟨⟨?_,fun x hx=>?_,fun x hx=>?_,h.lk,h.bg,fun x hx=>?_,?_⟩,⟨List.prefix_refl _,List.prefix_append _ _,List.prefix_refl _,(by simp only[Ys,List.length_singleton];omega),fun x hx hp=>?_,fun x hx=>?_⟩,fun _=>?_,fun _=>⟨rfl,rfl⟩,fun hb=>?_⟩
     · show(s.small++(s.large++[v.2])).Nodup
       rw[← List.append_assoc];exact List.nodup_append.2 ⟨h.nodup,by simp,fun a ha b hb=>by simp at hb;subst hb;exact fun e=>hm (e▸ha)⟩
     · rcases(hmet x).1 hx with h1|rfl
       · exact h.rng x h1
       · exact hv.1
     · rcases(hmet x).1 hx with h1|rfl
       · exact h.rch x h1
       · exact hv.2
     · show x∈s.large++[v.2]
       rcases Yr.1 hx with h1|h1
       · exact Yr.2 (.inl (h.pl x h1))
       · exact Yr.2 (.inr h1)
     · exact List.nodup_append.2 ⟨h.pn,by simp,fun a ha b hb=>by simp at hb;subst hb;exact fun e=>hps (e▸ha)⟩
     · have hp':x∉s.pile++[v.2]:=hp
       have hx':x∈s.large++[v.2]:=hx;simp at hp' hx';exact⟨hx'.resolve_right hp'.2,hp'.1⟩
     · exact Yr.2 (.inl hx)
     · exact(hmet _).2 (.inr rfl)
     · simp[hl] at hb
   · rw[if_neg hl]
     have hmet: ∀x,x∈(s.small++[v.2])++s.large↔x∈s.met∨x=v.2:=fun x=>by unfold PSt.met;simp only[Yr,Yt];constructor <;> (intro h;rcases h with(h|h)|h) <;> simp[h]
     refine⟨⟨?_,fun x hx=>?_,fun x hx=>?_,by simp[h.lk],by simp[h.bg],h.pl,h.pn⟩,⟨List.prefix_append _ _,List.prefix_refl _,List.prefix_append _ _,rfl,fun x hx hp=>⟨hx,hp⟩,fun x hx=>hx⟩,fun _=>?_,fun hb=>?_,fun _=>⟨rfl,rfl,h2⟩⟩
     · show((s.small++[v.2])++s.large).Nodup
       have h0:(s.small++s.large).Nodup:=h.nodup;obtain⟨n1,n2,n3⟩:=List.nodup_append.1 h0;refine List.nodup_append.2 ⟨List.nodup_append.2 ⟨n1,by simp,fun a ha b hb=>?_⟩,n2,fun a ha b hb=>?_⟩
       · simp at hb;subst hb
         exact fun e=>hm (Yr.2 (.inl (e▸ha)))
       · rcases Yr.1 ha with h1|h1
         · exact n3 a h1 b hb
         · simp at h1;subst h1
           exact fun e=>hm (Yr.2 (.inr (e▸hb)))
     · rcases(hmet x).1 hx with h1|rfl
       · exact h.rng x h1
       · exact hv.1
     · rcases(hmet x).1 hx with h1|rfl
       · exact h.rch x h1
       · exact hv.2
     · exact(hmet _).2 (.inr rfl)
     · simp[hn,hl] at hb
 · rw[if_neg hn]
   refine⟨h,Ext.refl s,fun h2=>ZsJ hn h2,fun _=>⟨rfl,rfl⟩,fun hb=>?_⟩
   have hf:Z1 v s=false:=by simpa using hn
   simp[hf] at hb
theorem ZeN {α:Type} {l m:List α} (h:l<+:m) {i:Nat} {x:α} (hx:l[i]? =some x):m[i]? =some x:=by
 obtain⟨r,rfl⟩:=h;rw[List.getElem?_append_left (Yk.1 hx).1];exact hx
theorem ZdV {l m:List Int} (h:l<+:m) {i:Nat} (hi:i<l.length):m.getD i 0=l.getD i 0:=by
 have h1:l[i]? =some l[i]:=Ya hi;rw[Yn,Yn,ZeN h h1,h1]
theorem Zec {g:Gr} {lim:Int}: ∀(l:List Sp) (s:PSt),Wf g s→Okl g l→Wf g (ZaA g lim l s)∧Ext s (ZaA g lim l s)∧ZkK (ZaA g lim l s) l∧ ∀i,s.small.length≤i→(ZaA g lim l s).looked[i]?≠some true
 |[],s,h,_=>⟨h,Ext.refl s,(fun v hv=>by cases hv),fun i hi=>by
  show s.looked[i]?≠some true
  rw[List.getElem?_eq_none (by rw[h.lk];exact hi)];simp⟩
 |v::l,s,h,ho=>by
  obtain⟨m1,m2,m3,m4,m5⟩:=ZgG (lim:=lim) h (ho v (List.mem_cons_self ..));obtain⟨n1,n2,n3,n4⟩:=Zec l (ZJ g lim v s) m1 fun u hu=>ho u (List.mem_cons_of_mem _ hu);refine⟨n1,m2.trans n2,fun u hu h2=>?_,fun i hi=>?_⟩
  · rcases List.mem_cons.1 hu with rfl|hu
    · exact n2.met (m3 h2)
    · exact n3 u hu h2
  · show(ZaA g lim l (ZJ g lim v s)).looked[i]?≠some true
    cases hb:ZbN g lim v s with
    |false=>exact n4 i (by rw[(m4 hb).1];exact hi)
    |true=>
     obtain⟨e1,e2, -⟩:=m5 hb;rcases Yq i (ZJ g lim v s).small.length with h'|h'
     · have hie:i=s.looked.length:=by
        rw[e1] at h';simp at h'
        have:=h.lk
        omega
       have h3:(ZJ g lim v s).looked[i]? =some false:=by rw[e2,hie];simp
       rw[ZeN n2.lk h3];simp
     · exact n4 i h'
theorem Zrt {n:Nat} {l:List Int} (hn:l.Nodup) (hr: ∀x∈l,0≤x∧x<(n:Int)):l.length≤n:=by
 have h1:(l.map Int.toNat).Nodup:=by
  unfold List.Nodup;rw[List.pairwise_map];exact List.Pairwise.imp_of_mem (fun {a b} ha hb hne e=>hne (by have:=hr a ha;have:=hr b hb;omega)) hn
 have:=Zep (m:=List.range n) h1 fun x hx=>by
  obtain⟨y,hy,rfl⟩:=List.mem_map.1 hx
  have:=hr y hy
  exact List.mem_range.2 (by omega)
 simpa using this
theorem Wf.room {g:Gr} {s:PSt} (h:Wf g s):s.met.length≤g.nd.length:=Zrt h.nodup h.rng
theorem ZaY (s:PSt):s.met.length=s.small.length+s.large.length:=by unfold PSt.met;simp
theorem Ext.len {s s':PSt} (h:Ext s s'):s.met.length≤s'.met.length:=by
 rw[ZaY,ZaY]
 have:=h.sm.length_le
 have:=h.lg.length_le
 omega
theorem Wf.mark {g:Gr} {s:PSt} (h:Wf g s) (i:Nat):Wf g (s.mark i):=⟨h.nodup,h.rng,h.rch,by unfold PSt.mark;simp[h.lk],h.bg,h.pl,h.pn⟩
theorem Zp1 {g:Gr} {lim:Int} (hg:ZA g=true): ∀(n:Nat) (l:List Sp) (s:PSt),Wf g s→Okl g l→g.nd.length≤n+s.met.length→
 Wf g (lookD g lim n l s)∧Ext s (lookD g lim n l s)∧ZkK (lookD g lim n l s) l∧ ∀i,s.small.length≤i→i<(lookD g lim n l s).small.length→(lookD g lim n l s).looked[i]? =some true∧ZkK (lookD g lim n l s) (Zcb g ((lookD g lim n l s).small.getD i 0)):=by
 intro n
 induction n with
 |zero=>
  intro l
  induction l with
  |nil=>
   intro s h _ _;rw[lookD];exact⟨h,Ext.refl s,fun v hv=>(by cases hv),fun i h1 h2=>absurd h2 (by omega)⟩
  |cons v l ih=>
   intro s h ho hf;obtain⟨m1,m2,m3,m4,m5⟩:=ZgG (lim:=lim) h (ho v (List.mem_cons_self ..))
   have hb:ZbN g lim v s=false:=by
    cases hb:ZbN g lim v s with
    |false=>rfl
    |true=>
     obtain⟨e1, -⟩:=m5 hb;have h1:=m1.room;have h2:=m2.lg.length_le;rw[ZaY,e1] at h1;rw[ZaY] at hf;simp at h1;omega
   rw[lookD];obtain⟨n1,n2,n3,n4⟩:=ih (ZJ g lim v s) m1 (fun u hu=>ho u (List.mem_cons_of_mem _ hu)) (by have:=m2.len;omega);refine⟨n1,m2.trans n2,fun u hu h2=>?_,fun i h1 h2=>n4 i (by rw[(m4 hb).1];exact h1) h2⟩;rcases List.mem_cons.1 hu with rfl|hu
   · exact n2.met (m3 h2)
   · exact n3 u hu h2
 |succ n ihn=>
  intro l
  induction l with
  |nil=>
   intro s h _ _;rw[lookD];exact⟨h,Ext.refl s,fun v hv=>(by cases hv),fun i h1 h2=>absurd h2 (by omega)⟩
  |cons v l ih=>
   intro s h ho hf;obtain⟨m1,m2,m3,m4,m5⟩:=ZgG (lim:=lim) h (ho v (List.mem_cons_self ..));rw[lookD]
   cases hb:ZbN g lim v s with
   |false=>
    rw[if_neg (by simp)];obtain⟨n1,n2,n3,n4⟩:=ih (ZJ g lim v s) m1 (fun u hu=>ho u (List.mem_cons_of_mem _ hu)) (by have:=m2.len;omega);refine⟨n1,m2.trans n2,fun u hu h2=>?_,fun i h1 h2=>n4 i (by rw[(m4 hb).1];exact h1) h2⟩;rcases List.mem_cons.1 hu with rfl|hu
    · exact n2.met (m3 h2)
    · exact n3 u hu h2
   |true=>
    rw[if_pos rfl];obtain⟨e1,e2,hv2⟩:=m5 hb
    obtain⟨s1,hs1⟩: ∃s1,s1=ZJ g lim v s:=⟨_,rfl⟩
    rw[← hs1] at m1 m2 m3 e1 e2 ⊢
    obtain⟨s2,hs2⟩: ∃s2,s2=s1.mark s.small.length:=⟨_,rfl⟩
    rw[← hs2];have w2:Wf g s2:=hs2▸m1.mark _
    have hsm2:s2.small=s.small++[v.2]:=by rw[hs2];exact e1
    have hlk2:s2.looked=s.looked++[true]:=by
     rw[hs2];show s1.looked.set s.small.length true=_;rw[e2, ← h.lk];simp
    have x2:Ext s s2:=⟨by rw[hsm2];exact List.prefix_append _ _,by rw[hs2];exact m2.lg,by rw[hlk2];exact List.prefix_append _ _,by rw[hs2];exact m2.sz,by rw[hs2];exact m2.pl,by rw[hs2];exact m2.pp⟩
    have hmem:v.2∈s2.met:=by
     unfold PSt.met;rw[hsm2];simp
    have hl2:s.met.length+1≤s2.met.length:=by
     have:=x2.lg.length_le
     rw[ZaY,ZaY,hsm2];simp;omega
    obtain⟨p1,p2,p3,p4⟩:=ihn (Zcb g v.2) s2 w2 (Znc hg (w2.rch _ hmem) (w2.rng _ hmem)) (by omega)
    obtain⟨s3,hs3⟩: ∃s3,s3=lookD g lim n (Zcb g v.2) s2:=⟨_,rfl⟩
    rw[← hs3] at p1 p2 p3 p4 ⊢;obtain⟨n1,n2,n3,n4⟩:=ih s3 p1 (fun u hu=>ho u (List.mem_cons_of_mem _ hu)) (by have:=p2.len;omega)
    obtain⟨s4,hs4⟩: ∃s4,s4=lookD g lim (n+1) l s3:=⟨_,rfl⟩
    rw[← hs4] at n1 n2 n3 n4 ⊢;refine⟨n1,x2.trans (p2.trans n2),fun u hu h2=>?_,fun i h1 h2=>?_⟩
    · rcases List.mem_cons.1 hu with rfl|hu
      · exact(p2.trans n2).met hmem
      · exact n3 u hu h2
    · rcases Yq i s3.small.length with h3|h3
      · rcases Yq i s2.small.length with h4|h4
        · have hie:i=s.small.length:=by
           rw[hsm2] at h4;simp at h4;omega
          have ht:s2.looked[i]? =some true:=by rw[hlk2,hie, ← h.lk];simp
          refine⟨ZeN (p2.trans n2).lk ht,?_⟩
          have he:s4.small.getD i 0=v.2:=by
           rw[ZdV (p2.trans n2).sm h4,hsm2,hie];simp[Yn]
          rw[he];exact n2.metl p3
        · obtain⟨q1,q2⟩:=p4 i h4 h3
          refine⟨ZeN n2.lk q1,?_⟩;rw[ZdV n2.sm h3];exact n2.metl q2
      · exact n4 i h3 h2
theorem Zgr {g:Gr} {lim order:Int} (hg:ZA g=true) {l:List Sp} {s:PSt} (h:Wf g s) (ho:Okl g l):
 Wf g (Z8 g lim order l s)∧Ext s (Z8 g lim order l s)∧ZkK (Z8 g lim order l s) l∧ ∀i,s.small.length≤i→(Z8 g lim order l s).looked[i]? =some true→ZkK (Z8 g lim order l s) (Zcb g ((Z8 g lim order l s).small.getD i 0)):=by
 unfold Z8
 split
 · obtain⟨h1,h2,h3,h4⟩:=Zp1 (lim:=lim) hg (g.nd.length+1) l s h ho (by omega)
   refine⟨h1,h2,h3,fun i hi ht=>(h4 i hi ?_).2⟩
   have:=(Yk.1 ht).1
   rw[h1.lk] at this;exact this
 · obtain⟨h1,h2,h3,h4⟩:=Zec (lim:=lim) l s h ho
   exact⟨h1,h2,h3,fun i hi ht=>absurd ht (h4 i hi)⟩
structure Cl (g:Gr) (s:PSt):Prop where
 rt:ZkK s g.rt
 lk: ∀i,s.looked[i]? =some true→ZkK s (Zcb g (s.small.getD i 0))
 lg: ∀x∈s.large,x∉s.pile→ZkK s (Zcb g x)
def Zhf (s:PSt):Nat:=s.looked.countP id+(s.large.length - s.pile.length)
theorem Zmy {l m:List Int} (hn:l.Nodup) (hs: ∀x∈l,x∈m):l.length≤m.length:=by
 induction l generalizing m with
 |nil=>simp
 |cons a l ih=>
  obtain⟨h1,h2⟩:=List.nodup_cons.1 hn
  have:=ih (m:=m.erase a) h2 fun x hx=>(List.mem_erase_of_ne (by rintro rfl;exact h1 hx)).2 (hs x (List.mem_cons_of_mem _ hx))
  rw[List.length_erase_of_mem (hs a (List.mem_cons_self ..))] at this;have hp:0<m.length:=List.length_pos_of_mem (hs a (List.mem_cons_self ..));simp;omega
theorem Wf.pile_le {g:Gr} {s:PSt} (h:Wf g s):s.pile.length≤s.large.length:=Zmy h.pn h.pl
theorem Wf.cnt {g:Gr} {s:PSt} (h:Wf g s):Zhf s≤g.nd.length:=by
 have h1:=h.room;rw[ZaY] at h1;have h2:s.looked.countP id≤s.looked.length:=List.countP_le_length;rw[h.lk] at h2;unfold Zhf;omega
theorem Ext.cnt {s s':PSt} (h:Ext s s') (hp:s.pile.length≤s.large.length) (hp':s'.pile.length≤s'.large.length):Zhf s≤Zhf s':=by
 unfold Zhf;obtain⟨r,hr⟩:=h.lk;rw[← hr,List.countP_append]
 have:=h.sz
 omega
theorem ZfN {p:Int→Bool} {s:PSt} {i:Nat} (h:Zct p s=some i):i<s.small.length∧s.looked.getD i true=false:=by
 unfold Zct at h;have h1:=List.mem_of_find?_eq_some h;have h2:=List.find?_some h;simp at h1 h2;refine⟨h1,?_⟩;rw[Yn];exact h2.1
theorem ZhL {order block:Int} {s:PSt} {i:Nat} (h:Zb2 order block s=some i):i<s.small.length∧s.looked.getD i true=false:=by
 unfold Zb2 at h
 split at h
 · rename_i j hj
   obtain rfl:=Yp h
   split at hj
   · exact ZfN hj
   · cases hj
 · exact ZfN h
theorem Zm4 {order block:Int} {s:PSt} (h:Zb2 order block s=none): ∀i,i<s.small.length→s.looked.getD i true=true:=by
 unfold Zb2 at h
 split at h
 · cases h
 · intro i hi
   unfold Zct at h
   have:=List.find?_eq_none.1 h i (List.mem_range.2 hi)
   simpa using this
theorem Cl.mark {g:Gr} {lim order:Int} (hg:ZA g=true) {s:PSt} (h:Wf g s) (c:Cl g s) {i:Nat} (hi:i<s.small.length) (hl:s.looked.getD i true=false):
 Wf g (Z8 g lim order (Zcb g (s.small.getD i 0)) (s.mark i))∧Cl g (Z8 g lim order (Zcb g (s.small.getD i 0)) (s.mark i))∧Zhf s+1≤Zhf (Z8 g lim order (Zcb g (s.small.getD i 0)) (s.mark i)):=by
 have hmem:s.small.getD i 0∈s.met:=by
  rw[Yn,Ya hi];exact Yr.2 (.inl (List.getElem_mem hi))
 have w1:=h.mark i;obtain⟨a1,a2,a3,a4⟩:=Zgr (lim:=lim) (order:=order) hg w1 (Znc hg (h.rch _ hmem) (h.rng _ hmem))
 obtain⟨s',hs'⟩: ∃s',s'=Z8 g lim order (Zcb g (s.small.getD i 0)) (s.mark i):=⟨_,rfl⟩
 rw[← hs'] at a1 a2 a3 a4 ⊢
 have hlt:i<s.looked.length:=by rw[h.lk];exact hi
 have hlf:s.looked[i]=false:=by
  rw[Yn,Ya hlt] at hl;exact hl
 refine⟨a1,⟨a2.metl c.rt,fun j hj=>?_,fun x hx hp=>?_⟩,?_⟩
 · rcases Yq j s.small.length with hj2|hj2
   · rw[ZdV a2.sm hj2]
     show ZkK s' (Zcb g (s.small.getD j 0));by_cases hij:i=j
     · subst hij;exact a3
     · have hj3:j<s.looked.length:=by rw[h.lk];exact hj2
       have e1:(s.mark i).looked[j]? =some s.looked[j]:=by
        show(s.looked.set i true)[j]? =_;rw[List.getElem?_set_ne hij,Ya hj3]
       have e2:=ZeN a2.lk e1;rw[hj] at e2
       have e3:s.looked[j]? =some true:=by rw[Ya hj3];exact e2.symm
       exact a2.metl (c.lk j e3)
   · exact a4 j hj2 hj
 · obtain⟨q1,q2⟩:=a2.pl x hx hp
   exact a2.metl (c.lg x q1 q2)
 · have h1:=a2.cnt (w1.pile_le) a1.pile_le
   have h2:Zhf (s.mark i)=Zhf s+1:=by
    unfold Zhf PSt.mark
    have e:(s.looked.set i true).countP id=s.looked.countP id+1:=by
     rw[List.countP_set hlt,hlf];simp
    simp only[e];omega
   omega
theorem Cl.pop {g:Gr} {lim order:Int} (hg:ZA g=true) {s:PSt} (h:Wf g s) (c:Cl g s) {k:Int} (hk:s.pile.getLast? =some k):
 Wf g (Z8 g lim order (Zcb g k) {s with pile:=s.pile.dropLast})∧Cl g (Z8 g lim order (Zcb g k) {s with pile:=s.pile.dropLast})∧Zhf s+1≤Zhf (Z8 g lim order (Zcb g k) {s with pile:=s.pile.dropLast}):=by
 obtain⟨P,hP⟩: ∃P,s.pile=P++[k]:=List.getLast?_eq_some_iff.1 hk
 have hd:s.pile.dropLast=P:=by rw[hP];simp
 rw[hd];have hkl:k∈s.large:=h.pl k (by rw[hP];simp);have hmem:k∈s.met:=Yr.2 (.inr hkl);have hpn:=h.pn;rw[hP] at hpn
 have w1:Wf g {s with pile:=P}:=⟨h.nodup,h.rng,h.rch,h.lk,h.bg,fun x hx=>h.pl x (by rw[hP];exact Yr.2 (.inl hx)),(List.nodup_append.1 hpn).1⟩
 obtain⟨a1,a2,a3,a4⟩:=Zgr (lim:=lim) (order:=order) hg w1 (Znc hg (h.rch _ hmem) (h.rng _ hmem))
 obtain⟨s',hs'⟩: ∃s',s'=Z8 g lim order (Zcb g k) {s with pile:=P}:=⟨_,rfl⟩
 rw[← hs'] at a1 a2 a3 a4 ⊢;refine⟨a1,⟨a2.metl c.rt,fun j hj=>?_,fun x hx hp=>?_⟩,?_⟩
 · rcases Yq j s.small.length with hj2|hj2
   · rw[ZdV a2.sm hj2]
     show ZkK s' (Zcb g (s.small.getD j 0))
     have hj3:j<s.looked.length:=by rw[h.lk];exact hj2
     have e1:s.looked[j]? =some s.looked[j]:=Ya hj3;have e2:=ZeN a2.lk (show({s with pile:=P}:PSt).looked[j]? =some s.looked[j] from e1);rw[hj] at e2;exact a2.metl (c.lk j (by rw[e1];exact e2.symm))
   · exact a4 j hj2 hj
 · obtain⟨q1,q2⟩:=a2.pl x hx hp
   by_cases hxk:x=k
   · subst hxk;exact a3
   · refine a2.metl (c.lg x q1 fun hx2=>?_)
     rw[hP] at hx2;rcases Yr.1 hx2 with h1|h1
     · exact q2 h1
     · simp at h1;exact hxk h1
 · have h1:=a2.cnt w1.pile_le a1.pile_le
   have h2:Zhf {s with pile:=P}=Zhf s+1:=by
    have h3:=h.pile_le;rw[hP] at h3;simp at h3;unfold Zhf;rw[hP];simp only[Ys,List.length_singleton];omega
   omega
theorem ZrU {g:Gr} {lim order block:Int} (hg:ZA g=true) {s s':PSt} (h:Wf g s) (c:Cl g s) (e:ZaI g lim order block s=some s'):Wf g s'∧Cl g s'∧Zhf s+1≤Zhf s':=by
 unfold ZaI at e
 split at e
 · rename_i i hi
   obtain rfl:=Yp e;obtain⟨h1,h2⟩:=ZhL hi;exact Cl.mark hg h c h1 h2
 · split at e
   · cases e
   · rename_i k hk
     obtain rfl:=Yp e;exact Cl.pop hg h c hk
theorem ZfY {g:Gr} {lim order block:Int} (hg:ZA g=true): ∀(n:Nat) (s:PSt),Wf g s→Cl g s→g.nd.length<n+Zhf s→Wf g (Zdb g lim order block n s)∧Cl g (Zdb g lim order block n s)∧ZaI g lim order block (Zdb g lim order block n s)=none
 |0,s,h,_,hn=>absurd h.cnt (by omega)
 |n+1,s,h,c,hn=>by
  rw[Zdb]
  cases e:ZaI g lim order block s with
  |none=>exact⟨h,c,e⟩
  |some s'=>
   obtain⟨h1,h2,h3⟩:=ZrU hg h c e;exact ZfY hg n s' h1 h2 (by omega)
theorem ZmK (g:Gr):Wf g .none:=⟨List.nodup_nil,(fun x hx=>by cases hx),(fun x hx=>by cases hx),rfl,rfl,(fun x hx=>by cases hx),List.nodup_nil⟩
theorem ZcV {g:Gr} (lim order:Int) (hg:ZA g=true):Wf g (Z8 g lim order g.rt .none)∧Cl g (Z8 g lim order g.rt .none):=by
 obtain⟨a1,a2,a3,a4⟩:=Zgr (lim:=lim) (order:=order) hg (ZmK g) (Zuc hg)
 exact⟨a1,a3,fun i hi=>a4 i (Yu _) hi,fun x hx hp=>by
  obtain⟨q1, -⟩:=a2.pl x hx hp
  cases q1⟩
theorem Zo2 {g:Gr} (lim order block:Int) (hg:ZA g=true):(Zb8 g lim order block).met.Nodup∧ ∀x,x∈(Zb8 g lim order block).met↔Rch g x:=by
 obtain⟨h1,h2⟩:=ZcV lim order hg;obtain⟨w,c,e⟩:=ZfY (block:=block) hg (g.nd.length+1) _ h1 h2 (by omega)
 obtain⟨R,hR⟩: ∃R,R=Zb8 g lim order block:=⟨_,rfl⟩
 have hR2:R=Zdb g lim order block (g.nd.length+1) (Z8 g lim order g.rt .none):=hR;rw[← hR2] at w c e;rw[← hR];refine⟨w.nodup,fun x=>⟨w.rch x,fun hx=>?_⟩⟩
 have hall:(∀i,i<R.small.length→R.looked.getD i true=true)∧R.pile=[]:=by
  unfold ZaI at e
  split at e
  · cases e
  · rename_i hn
    split at e
    · rename_i hp
      exact⟨Zm4 hn,List.getLast?_eq_none_iff.1 hp⟩
    · cases e
 have hcl: ∀y∈R.met,ZkK R (Zcb g y):=by
  intro y hy;rcases Yr.1 hy with h'|h'
  · obtain⟨i,hi⟩:=List.getElem?_of_mem h'
    have hlt:=(Yk.1 hi).1;have ht:=hall.1 i hlt
    have hlk:i<R.looked.length:=by rw[w.lk];exact hlt
    have:=c.lk i (by
     rw[Yn,Ya hlk] at ht;rw[Ya hlk]
     exact congrArg some ht)
    rwa [Yn,hi] at this
  · exact c.lg y h' (by rw[hall.2];simp)
 induction hx with
 |root hv h2=>exact c.rt _ hv h2
 |next _ hv h2 ih=>exact hcl _ ih _ hv h2
end Go.Proofs.YtknoncenblehkaaGreatDoor
