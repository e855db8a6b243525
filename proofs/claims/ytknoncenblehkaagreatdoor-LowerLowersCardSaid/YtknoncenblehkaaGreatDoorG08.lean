/- Plain mathematics of spans: the words of some, joined spans -/
import Derived.Test.YtknoncenblehkaaGreatDoorRows
import Derived.Test.YtknoncenblehkaaGreatDoorG02
import Derived.Deep.QuietTactic
import Derived.BigQuiet
import Derived.StillTailTactics
import Derived.Deep.DeepCutAuto
import Derived.Deep.CutBlock
import Derived.Lib.SmallJoins
set_option maxRecDepth 100000
set_option maxHeartbeats 32000000
set_option linter.unusedSimpArgs false
set_option linter.unusedVariables false
namespace Go.Proofs.YtknoncenblehkaaGreatDoor
section
open Go.RowKit
abbrev Sp:=Int×Int
def Za6:Int:=1099511627776
def Sp.ok (x:Sp):Prop:=0≤x.1∧1≤x.2∧x.1≤Za6∧x.2≤Za6 - x.1
instance (x:Sp):Decidable x.ok:=by unfold Sp.ok;infer_instance
def Sp.has (x:Sp) (p:Int):Prop:=x.ok∧x.1≤p∧p<x.1+x.2
instance (x:Sp) (p:Int):Decidable (x.has p):=by unfold Sp.has;infer_instance
def cov (l:List Sp) (p:Int):Prop:= ∃x∈l,Sp.has x p
theorem Zbr (p:Int): ¬cov [] p:=by rintro⟨x,h,_⟩;cases h
theorem Zaj {x:Sp} {l:List Sp} {p:Int}:cov (x::l) p↔x.has p∨cov l p:=by
 constructor
 · rintro⟨y,hy,hp⟩
   rcases List.mem_cons.1 hy with rfl|hy
   · exact .inl hp
   · exact .inr ⟨y,hy,hp⟩
 · rintro(h|⟨y,hy,hp⟩)
   · exact⟨x,List.mem_cons_self,h⟩
   · exact⟨y,List.mem_cons_of_mem _ hy,hp⟩
theorem Zn {l m:List Sp} {p:Int}:cov (l++m) p↔cov l p∨cov m p:=by
 constructor
 · rintro⟨y,hy,hp⟩
   rcases Yq.1 hy with hy|hy
   · exact .inl ⟨y,hy,hp⟩
   · exact .inr ⟨y,hy,hp⟩
 · rintro(⟨y,hy,hp⟩|⟨y,hy,hp⟩)
   · exact⟨y,List.mem_append_left _ hy,hp⟩
   · exact⟨y,List.mem_append_right _ hy,hp⟩
theorem ZaQ {x:Sp} {p:Int}:cov [x] p↔x.has p:=by rw[Zaj];exact⟨fun h=>h.elim id fun h=>absurd h (Zbr p),.inl⟩
theorem Zmh {l m:List Sp} (h:l.Perm m) (p:Int):cov l p↔cov m p:=⟨fun ⟨x,hx,hp⟩=>⟨x,h.mem_iff.1 hx,hp⟩,fun ⟨x,hx,hp⟩=>⟨x,h.mem_iff.2 hx,hp⟩⟩
def Joined (l:List Sp):Prop:=(∀x∈l,Sp.ok x)∧l.Pairwise fun x y=>x.1+x.2<y.1
theorem Joined.nil:Joined []:=⟨(fun _ h=>by cases h),List.Pairwise.nil⟩
theorem Joined.tail {x:Sp} {l:List Sp} (h:Joined (x::l)):Joined l:=⟨fun y hy=>h.1 y (List.mem_cons_of_mem _ hy),(List.pairwise_cons.1 h.2).2⟩
theorem Joined.head {x:Sp} {l:List Sp} (h:Joined (x::l)):x.ok:=h.1 x List.mem_cons_self
theorem Joined.lt {x:Sp} {l:List Sp} (h:Joined (x::l)): ∀y∈l,x.1+x.2<y.1:=(List.pairwise_cons.1 h.2).1
theorem Joined.first {x:Sp} {l:List Sp} (h:Joined (x::l)) {p:Int} (hp:cov (x::l) p):x.1≤p:=by
 rcases Zaj.1 hp with hp|⟨y,hy,hp⟩
 · exact hp.2.1
 · have:=h.lt y hy
   have:=h.head.2.1
   have:=hp.2.1
   omega
theorem Joined.begins {x:Sp} {l:List Sp} (h:Joined (x::l)):cov (x::l) x.1:=Zaj.2 (.inl ⟨h.head,Int.le_refl _,by have:=h.head.2.1;omega⟩)
theorem Joined.ends {x:Sp} {l:List Sp} (h:Joined (x::l)): ¬cov (x::l) (x.1+x.2):=by
 intro hc
 rcases Zaj.1 hc with hp|⟨y,hy,hp⟩
 · have:=hp.2.2;omega
 · have:=h.lt y hy
   have:=hp.2.1
   omega
theorem Za9: ∀{l m:List Sp},Joined l→Joined m→(∀p,cov l p↔cov m p)→l=m
 |[],[],_,_,_=>rfl
 |[],_::_,_,hm,h=>absurd ((h _).2 hm.begins) (Zbr _)
 |_::_,[],hl,_,h=>absurd ((h _).1 hl.begins) (Zbr _)
 |x::l,y::m,hl,hm,h=>by
  have h1:x.1=y.1:=Int.le_antisymm (hl.first ((h _).2 hm.begins)) (hm.first ((h _).1 hl.begins))
  have h2:x.2=y.2:=by
   rcases Int.lt_trichotomy x.2 y.2 with hlt|he|hgt
   · exact absurd ((h _).2 (Zaj.2 (.inl ⟨hm.head,by have:=hl.head.2.1;omega,by omega⟩))) hl.ends
   · exact he
   · exact absurd ((h _).1 (Zaj.2 (.inl ⟨hl.head,by have:=hm.head.2.1;omega,by omega⟩))) hm.ends
  have hxy:x=y:=Prod.ext h1 h2;subst hxy
  have ht: ∀p,cov l p↔cov m p:=by
   intro p;constructor
   · intro hp
     obtain⟨z,hz,hzp⟩:=hp;rcases Zaj.1 ((h p).1 (Zaj.2 (.inr ⟨z,hz,hzp⟩))) with hx|hx
     · have:=hl.lt z hz
       have:=hzp.2.1
       have:=hx.2.2
       omega
     · exact hx
   · intro hp
     obtain⟨z,hz,hzp⟩:=hp;rcases Zaj.1 ((h p).2 (Zaj.2 (.inr ⟨z,hz,hzp⟩))) with hx|hx
     · have:=hm.lt z hz
       have:=hzp.2.1
       have:=hx.2.2
       omega
     · exact hx
  rw[Za9 hl.tail hm.tail ht]
def Sp.le (x y:Sp):Prop:=x.1<y.1∨x.1=y.1∧x.2≤y.2
def Sp.lt (x y:Sp):Prop:=x.1<y.1∨x.1=y.1∧x.2<y.2
instance (x y:Sp):Decidable (Sp.le x y):=by unfold Sp.le;infer_instance
instance (x y:Sp):Decidable (Sp.lt x y):=by unfold Sp.lt;infer_instance
theorem Sp.not_lt {x y:Sp}: ¬Sp.lt x y↔Sp.le y x:=by unfold Sp.le Sp.lt at *;omega
def Zbn (l:List Sp):Prop:=l.Pairwise Sp.le
end
section
theorem Joined.snoc {l:List Sp} {x:Sp} (h:Joined l) (hx:x.ok) (hb: ∀y∈l,y.1+y.2<x.1):Joined (l++[x]):=by
 constructor
 · intro y hy
   rcases Yq.1 hy with hy|hy
   · exact h.1 y hy
   · rw[Ys.1 hy];exact hx
 · refine List.pairwise_append.2 ⟨h.2,List.pairwise_singleton _ _,fun a ha b hb'=>?_⟩
   rw[Ys.1 hb'];exact hb a ha
theorem Joined.init {l:List Sp} {x:Sp} (h:Joined (l++[x])):Joined l:=⟨fun y hy=>h.1 y (List.mem_append_left _ hy),(List.pairwise_append.1 h.2).1⟩
theorem Joined.last {l:List Sp} {x:Sp} (h:Joined (l++[x])):x.ok:=h.1 x (by simp)
theorem Joined.below {l:List Sp} {x:Sp} (h:Joined (l++[x])): ∀y∈l,y.1+y.2<x.1:=fun y hy=>(List.pairwise_append.1 h.2).2.2 y hy x (by simp)
theorem Joined.grow {l:List Sp} {x y:Sp} (h:Joined (l++[x])) (hy:y.ok) (h1:y.1=x.1):Joined (l++[y]):=h.init.snoc hy (fun z hz=>by rw[h1];exact h.below z hz)
structure Merge (l out:List Sp) (cur:Sp):Prop where
 joined:Joined (out++[cur])
 words: ∀p,cov (out++[cur]) p↔cov l p
theorem Merge.first {l:List Sp} {x:Sp} (h: ∀p, ¬cov l p) (hx:x.ok):Merge (l++[x]) [] x:=
 ⟨Joined.nil.snoc hx (fun _ h=>by cases h),fun p=>by rw[List.nil_append,Zn];exact⟨Or.inr,fun e=>e.elim (fun e=>absurd e (h p)) id⟩⟩
theorem Merge.next {l out:List Sp} {cur x:Sp} (h:Merge l out cur) (hx:x.ok) (hb:cur.1+cur.2<x.1):Merge (l++[x]) (out++[cur]) x:=by
 refine⟨h.joined.snoc hx fun y hy=>?_,fun p=>?_⟩
 · rcases Yq.1 hy with hy|hy
   · have:=h.joined.below y hy
     have:=h.joined.last.2.1
     omega
   · rw[Ys.1 hy];exact hb
 · rw[Zn (l:=out++[cur]),Zn (l:=l),h.words]
theorem Merge.grow {l out:List Sp} {cur x:Sp} (h:Merge l out cur) (hx:x.ok) (ha:cur.1≤x.1) (hb:x.1≤cur.1+cur.2) {s:Int} (hs:s=max (cur.1+cur.2) (x.1+x.2) - cur.1):Merge (l++[x]) out (cur.1,s):=by
 have hc:=h.joined.last;unfold Sp.ok at hc hx
 have hy:Sp.ok (cur.1,s):=by unfold Sp.ok;simp only;omega
 refine⟨h.joined.grow hy rfl,fun p=>?_⟩;rw[Zn,Zn, ← h.words,Zn,ZaQ,ZaQ,ZaQ,or_assoc]
 have hh:Sp.has (cur.1,s) p↔cur.has p∨x.has p:=by
  unfold Sp.has;simp only[show Sp.ok (cur.1,s) from hy,show Sp.ok cur from hc,show Sp.ok x from hx,true_and];omega
 rw[hh]
structure GapsAt (x:Sp) (l O:List Sp) (frm:Int):Prop where
 joined:Joined O
 words: ∀p,cov O p↔x.has p∧p<frm∧ ¬cov l p
 behind: ∀y∈l,y.1+y.2≤frm
 low:x.1≤frm
 shut:frm=x.1∨(cov l (frm - 1))
 under: ∀p,cov O p→ ∃z∈l,p<z.1
theorem GapsAt.start (x:Sp):GapsAt x [] [] x.1:=
 ⟨Joined.nil,fun p=>⟨fun h=>absurd h (Zbr p),fun h=>by have:=h.1.2.1;have:=h.2.1;omega⟩,(fun _ h=>by cases h),Int.le_refl _,.inl rfl,fun p h=>absurd h (Zbr p)⟩
theorem GapsAt.ends {x:Sp} {l O:List Sp} {frm:Int} (h:GapsAt x l O frm): ∀y∈O,y.1+y.2<frm:=by
 intro y hy;have hok:=h.joined.1 y hy;unfold Sp.ok at hok
 have hl:y.has (y.1+y.2 - 1):=⟨hok,by omega,by omega⟩
 have hw:=(h.words _).1 ⟨y,hy,hl⟩;rcases Int.lt_or_le (y.1+y.2) frm with hlt|hge
 · exact hlt
 · exfalso
   have he:y.1+y.2=frm:=by have:=hw.2.1;omega
   rcases h.shut with hs|hs
   · have:=hw.1.2.1;omega
   · rw[he] at hw;exact hw.2.2 hs
theorem GapsAt.gap {x y:Sp} {l O:List Sp} {frm:Int} (h:GapsAt x l O frm) (hx:x.ok) (hy:y.ok) (hlt:frm<y.1) (hin:y.1<x.1+x.2) {s:Int} (hs:s=y.1 - frm):
 GapsAt x (l++[y]) (O++[(frm,s)]) (y.1+y.2):=by
 have hl:=h.low;have hxx:=hx;unfold Sp.ok Za6 at hx hy
 have hok:Sp.ok (frm,s):=by unfold Sp.ok Za6;simp only;omega
 have hyok:y.ok:=by unfold Sp.ok Za6;omega
 refine⟨h.joined.snoc hok h.ends,fun p=>?_,fun z hz=>?_,by omega,.inr ?_,fun p hp=>?_⟩
 · rw[Zn,ZaQ,Zn,ZaQ,h.words]
   have hcl:cov l p→p<frm:=by
    rintro⟨z,hz,hp⟩
    have:=h.behind z hz
    have:=hp.2.2
    omega
   constructor
   · rintro(⟨h1,h2,h3⟩|h1)
     · exact⟨h1,by omega,fun e=>e.elim h3 fun e=>by have:=e.2.1;omega⟩
     · have:=h1.2.1
       have:=h1.2.2
       simp only at *;exact⟨⟨hxx,by omega,by omega⟩,by omega,fun e=>e.elim (fun e=>by have:=hcl e;omega) fun e=>by have:=e.2.1;omega⟩
   · rintro⟨h1,h2,h3⟩
     rcases Int.lt_or_le p frm with hp|hp
     · exact .inl ⟨h1,hp,fun e=>h3 (.inl e)⟩
     · refine .inr ⟨hok,hp,?_⟩
       simp only;rcases Int.lt_or_le p y.1 with hq|hq
       · omega
       · exact absurd (.inr ⟨hyok,hq,h2⟩) h3
 · rcases Yq.1 hz with hz|hz
   · have:=h.behind z hz;omega
   · rw[Ys.1 hz];exact Int.le_refl _
 · exact Zn.2 (.inr (ZaQ.2 ⟨hyok,by omega,by omega⟩))
 · rcases Zn.1 hp with hp|hp
   · obtain⟨z,hz,hlt⟩:=h.under p hp
     exact⟨z,List.mem_append_left _ hz,hlt⟩
   · have:=(ZaQ.1 hp).2.2
     exact⟨y,by simp,by simp only at this;omega⟩
theorem GapsAt.none {x y:Sp} {l O:List Sp} {frm e:Int} (h:GapsAt x l O frm) (hy:y.ok) (hr: ∀z∈l,z.1≤y.1) (hle:y.1≤frm) (he:e=max frm (y.1+y.2)):GapsAt x (l++[y]) O e:=by
 have hl:=h.low;have hyok:=hy;unfold Sp.ok Za6 at hy;refine⟨h.joined,fun p=>?_,fun z hz=>?_,by omega,?_,fun p hp=>?_⟩
 · rw[Zn,ZaQ,h.words]
   constructor
   · rintro⟨h1,h2,h3⟩
     refine⟨h1,by omega,fun hc=>hc.elim h3 fun hc=>?_⟩;obtain⟨z,hz,hlt⟩:=h.under p ((h.words p).2 ⟨h1,h2,h3⟩)
     have:=hr z hz
     have:=hc.2.1
     omega
   · rintro⟨h1,h2,h3⟩
     refine⟨h1,?_,fun hc=>h3 (.inl hc)⟩;rcases Int.lt_or_le p frm with hp|hp
     · exact hp
     · exact absurd (.inr ⟨hyok,by omega,by omega⟩) h3
 · rcases Yq.1 hz with hz|hz
   · have:=h.behind z hz;omega
   · rw[Ys.1 hz];omega
 · rcases Int.lt_or_le frm (y.1+y.2) with hp|hp
   · exact .inr (Zn.2 (.inr (ZaQ.2 ⟨hyok,by omega,by omega⟩)))
   · rw[show e=frm by omega]
     exact h.shut.elim .inl fun hc=>.inr (Zn.2 (.inl hc))
 · obtain⟨z,hz,hlt⟩:=h.under p hp
   exact⟨z,List.mem_append_left _ hz,hlt⟩
theorem GapsAt.rest {x:Sp} {l m O:List Sp} {frm:Int} (h:GapsAt x l O frm) (hx:x.ok) (hm: ∀z∈m,z.ok→x.1+x.2≤z.1) (hlt:frm<x.1+x.2) {s:Int} (hs:s=x.1+x.2 - frm):
 Joined (O++[(frm,s)])∧ ∀p,cov (O++[(frm,s)]) p↔x.has p∧ ¬cov (l++m) p:=by
 have hl:=h.low;have hxx:=hx;unfold Sp.ok Za6 at hx
 have hok:Sp.ok (frm,s):=by unfold Sp.ok Za6;simp only;omega
 refine⟨h.joined.snoc hok h.ends,fun p=>?_⟩;rw[Zn,ZaQ,Zn,h.words]
 have hcl:cov l p→p<frm:=by
  rintro⟨z,hz,hp⟩
  have:=h.behind z hz
  have:=hp.2.2
  omega
 have hcm:cov m p→x.1+x.2≤p:=by
  rintro⟨z,hz,hp⟩
  have:=hm z hz hp.1
  have:=hp.2.1
  omega
 constructor
 · rintro(⟨h1,h2,h3⟩|h1)
   · exact⟨h1,fun e=>e.elim h3 fun e=>by have:=hcm e;have:=h1.2.2;omega⟩
   · have h2:=h1.2.1
     have h3:=h1.2.2;simp only at h2 h3;exact⟨⟨hxx,by omega,by omega⟩,fun e=>e.elim (fun e=>by have:=hcl e;omega) fun e=>by have:=hcm e;omega⟩
 · rintro⟨h1,h2⟩
   rcases Int.lt_or_le p frm with hp|hp
   · exact .inl ⟨h1,hp,fun e=>h2 (.inl e)⟩
   · have:=h1.2.2
     exact .inr ⟨hok,hp,by simp only;omega⟩
theorem GapsAt.over {x:Sp} {l m O:List Sp} {frm:Int} (h:GapsAt x l O frm) (hm: ∀z∈m,z.ok→x.1+x.2≤z.1) (hge:x.1+x.2≤frm):
 Joined O∧ ∀p,cov O p↔x.has p∧ ¬cov (l++m) p:=by
 refine⟨h.joined,fun p=>?_⟩;rw[Zn,h.words]
 have hcm:cov m p→x.1+x.2≤p:=by
  rintro⟨z,hz,hp⟩
  have:=hm z hz hp.1
  have:=hp.2.1
  omega
 constructor
 · rintro⟨h1,h2,h3⟩
   exact⟨h1,fun e=>e.elim h3 fun e=>by have:=hcm e;have:=h1.2.2;omega⟩
 · rintro⟨h1,h2⟩
   have:=h1.2.2
   exact⟨h1,by omega,fun e=>h2 (.inl e)⟩
theorem Zbk {l O:List Sp} {y:Sp} (hj:Joined O) (hc: ∀p,cov O p↔cov l p) (hy:y∈O): ∃z∈l,z.1=y.1:=by
 have hok:=hj.1 y hy
 have h0:y.has y.1:=⟨hok,Int.le_refl _,by have:=hok.2.1;omega⟩
 obtain⟨z,hz,hzp⟩:=(hc _).1 ⟨y,hy,h0⟩;refine⟨z,hz,?_⟩;rcases Int.lt_or_eq_of_le hzp.2.1 with hlt|he
 · exfalso
   have h1:z.has (y.1 - 1):=⟨hzp.1,by omega,by have:=hzp.2.2;omega⟩
   obtain⟨u,hu,hup⟩:=(hc _).2 ⟨z,hz,h1⟩;obtain⟨i,hi,rfl⟩:=List.getElem_of_mem hy;obtain⟨j,hjj,rfl⟩:=List.getElem_of_mem hu;have h2:=hup.2.1;have h3:=hup.2.2;rcases Nat.lt_trichotomy i j with h|h|h
   · have:=List.pairwise_iff_getElem.1 hj.2 i j hi hjj h
     have:=hok.2.1
     omega
   · subst h;omega
   · have:=List.pairwise_iff_getElem.1 hj.2 j i hjj hi h
     omega
 · exact he
theorem ZcT: ∀(n:Nat) (M:List Sp),M.length=n→Zbn M→(∀x∈M,Sp.ok x)→M≠[]→ ∃out cur,Merge M out cur
 |0,M,h,_,_,hne=>absurd (List.eq_nil_of_length_eq_zero h) hne
 |n+1,M,h,hs,hok,hne=>by
  rcases List.eq_nil_or_concat M with rfl|⟨M',x,rfl⟩
  · exact absurd rfl hne
  · rw[List.concat_eq_append] at *
    have hx:=hok x (by simp);have hs':Zbn M':=(List.pairwise_append.1 hs).1;have hlt:=(List.pairwise_append.1 hs).2.2;by_cases hM:M'=[]
    · subst hM;exact⟨[],x,Merge.first (fun p=>Zbr p) hx⟩
    · obtain⟨out,cur,m⟩:=ZcT n M' (by simpa using h) hs' (fun y hy=>hok y (List.mem_append_left _ hy)) hM
      by_cases hb:cur.1+cur.2<x.1
      · exact⟨_,_,m.next hx hb⟩
      · obtain⟨z,hz,he⟩:=Zbk m.joined m.words (y:=cur) (by simp)
        have:=hlt z hz x (by simp)
        unfold Sp.le at this;exact⟨_,_,m.grow hx (by omega) (by omega) rfl⟩
theorem Zgk (M:List Sp) (hs:Zbn M) (hok: ∀x∈M,Sp.ok x): ∃O,Joined O∧ ∀p,cov O p↔cov M p:=by
 by_cases hM:M=[]
 · subst hM;exact⟨[],Joined.nil,fun _=>Iff.rfl⟩
 · obtain⟨out,cur,m⟩:=ZcT _ M rfl hs hok hM
   exact⟨_,m.joined,m.words⟩
structure Past (L:List Sp) (k:Nat) (P:List Sp):Prop where
 joined:Joined P
 words: ∀p,cov P p↔cov (L.take k) p
 ends: ∀y∈P, ∀x,L[k]? =some x→y.1+y.2<x.1
 len:P.length≤k
 kle:k≤L.length
theorem Past.start (L:List Sp):Past L 0 []:=⟨Joined.nil,fun p=>by simp[cov],(fun _ h=>by cases h),Yi _,Yt _⟩
theorem Zdq {L:List Sp} (hs:Zbn L) {k:Nat} {x z:Sp} (hx:L[k]? =some x) (hz:z∈L.drop k):x.1≤z.1:=by
 obtain⟨j,hj,rfl⟩:=List.getElem_of_mem hz;obtain⟨h1,rfl⟩:=Yj.1 hx;rw[List.getElem_drop];rcases Nat.eq_zero_or_pos j with h0|h0
 · subst h0;exact Int.le_refl _
 · have:=List.pairwise_iff_getElem.1 hs k (k+j) h1 (by simp at hj;omega) (by omega)
   unfold Sp.le at this;omega
theorem Past.next {L P:List Sp} {k m:Nat} {r:Sp} (h:Past L k P) (hs:Zbn L) (hm1:1≤m) (hm2:m≤(L.drop k).length) (hM:Merge ((L.drop k).take m) [] r) (hn: ∀x,(L.drop k)[m]? =some x→r.1+r.2<x.1):Past L (k+m) (P++[r]):=by
 have hlen:k+m≤L.length:=by rw[List.length_drop] at hm2;omega
 obtain⟨x,hx⟩: ∃x,L[k]? =some x:=⟨_,Ya (by omega)⟩
 have hr:=hM.joined.1 r (by simp);obtain⟨z,hz,he⟩:=Zbk hM.joined hM.words (y:=r) (by simp)
 have hxr:x.1≤r.1:=by rw[← he];exact Zdq hs hx (List.mem_of_mem_take hz)
 refine⟨h.joined.snoc hr fun y hy=>?_,fun p=>?_,fun y hy u hu=>?_,by simp;have:=h.len;omega,hlen⟩
 · have:=h.ends y hy x hx;omega
 · rw[Zn,h.words,List.take_add,Zn]
   have:=hM.words p
   rw[List.nil_append] at this;rw[this]
 · have hu':(L.drop k)[m]? =some u:=by rw[List.getElem?_drop];exact hu
   rcases Yq.1 hy with hy|hy
   · have h1:=h.ends y hy x hx
     have h2:=Zdq hs hx (Yn hu');omega
   · rw[Ys.1 hy];exact hn u hu'
theorem Past.all {L P:List Sp} (h:Past L L.length P):Joined P∧ ∀p,cov P p↔cov L p:=⟨h.joined,fun p=>by rw[h.words,List.take_length]⟩
theorem Past.more {L P:List Sp} {k:Nat} (h:Past L k P) (hs:Zbn L) (hok: ∀x∈L,Sp.ok x): ∃Q,Joined (P++Q)∧ ∀p,cov (P++Q) p↔cov L p:=by
 obtain⟨Q,hQ,hc⟩:=Zgk (L.drop k) (hs.sublist (List.drop_sublist _ _)) fun x hx=>hok x (List.mem_of_mem_drop hx);refine⟨Q,⟨fun x hx=>?_,List.pairwise_append.2 ⟨h.joined.2,hQ.2,fun a ha b hb=>?_⟩⟩,fun p=>?_⟩
 · rcases Yq.1 hx with hx|hx
   · exact h.joined.1 x hx
   · exact hQ.1 x hx
 · obtain⟨z,hz,he⟩:=Zbk hQ hc hb
   have hlt:k<L.length:=by
    rcases Yp k L.length with h1|h1
    · exact h1
    · rw[List.drop_eq_nil_of_le h1] at hz;cases hz
   obtain⟨x,hx⟩: ∃x,L[k]? =some x:=⟨_,Ya hlt⟩
   have h1:=h.ends a ha x hx;have h2:=Zdq hs hx hz;omega
 · rw[Zn,h.words,hc, ← Zn,List.take_append_drop]
end
section
open Go.RowKit
def spc (l:List Sp):List Value:=l.flatMap fun x=>[Value.int .i64 x.1,Value.int .i64 x.2]
theorem Zar (l:List Sp):(spc l).length=l.length * 2:=by
 induction l with
 |nil=>rfl
 |cons x l ih=>simp only[spc,List.flatMap_cons,Yr,List.length_cons,List.length_nil] at ih ⊢;omega
theorem ZkO (l:List Sp) (k:Nat) (h:k<l.length):(spc l)[k * 2]? =some (.int .i64 (l[k]).1)∧(spc l)[k * 2+1]? =some (.int .i64 (l[k]).2):=by
 induction l generalizing k with
 |nil=>simp at h
 |cons x l ih=>
  rcases k with _|k
  · exact⟨rfl,rfl⟩
  · have:=ih k (by simpa using h)
    rw[show(k+1) * 2=k * 2+1+1 by omega];simpa[spc] using this
def Sp.meets (x y:Sp):Prop:=x.ok∧y.ok∧(x.has y.1∨y.has x.1)
instance (x y:Sp):Decidable (Sp.meets x y):=by unfold Sp.meets;infer_instance
def Sp.within (x y:Sp):Prop:=x.ok∧y.ok∧y.has x.1∧y.has (x.1+x.2 - 1)
instance (x y:Sp):Decidable (Sp.within x y):=by unfold Sp.within;infer_instance
theorem Zkv (x y:Sp):decide (Sp.meets x y)=(decide x.ok&&(decide y.ok&&(decide (x.has y.1)||decide (y.has x.1)))):=by
 rw[Bool.eq_iff_iff,decide_eq_true_iff];simp[Sp.meets]
theorem ZmD {l:List Sp} {k:Nat} {x:Sp} (h:l[k]? =some x):(spc l)[k * 2]? =some (.int .i64 x.1)∧(spc l)[k * 2+1]? =some (.int .i64 x.2):=by
 obtain⟨hk,rfl⟩:=Yj.1 h;exact ZkO l k hk
theorem Zy {w w':World} {B:Nat} {A:Option Addr} {c k:Nat} {l:List Sp} {x:Sp} (h:Sl w B 2 (.slice A l.length c) l.length (spc l)) (hb:Below B w w') (hx:l[k]? =some x):
 ∃b o,A=some ⟨b,o,none⟩∧b<B∧w'.cell? ⟨b,o+k * 2,none⟩=some (.int .i64 x.1)∧w'.cell? ⟨b,o+k * 2+1,none⟩=some (.int .i64 x.2):=by
 have hk:k<l.length:=(Yj.1 hx).1;obtain⟨b,o,c',e,_,_,hlt,hc⟩:=(h.below hb).at_ (by omega)
 obtain⟨rfl,rfl⟩:A=some ⟨b,o,none⟩∧c=c':=by simpa using e
 obtain⟨h0,h1⟩:=ZmD hx;refine⟨b,o,rfl,hlt,hc _ _ h0,?_⟩
 have:=hc _ _ h1
 rwa [← Nat.add_assoc] at this
instance (l:List Sp) (p:Int):Decidable (cov l p):=by unfold cov;infer_instance
def Zea:Int:=4611686018427387904
def tot:List Sp→Int
 |[]=>0
 |x::l=>(if x.ok then x.2 else 0)+tot l
theorem ZeB (l m:List Sp):tot (l++m)=tot l+tot m:=by
 induction l with
 |nil=>simp[tot]
 |cons x l ih=>simp only[List.cons_append,tot,ih];omega
theorem ZiN (l:List Sp):0≤tot l:=by
 induction l with
 |nil=>simp[tot]
 |cons x l ih=>
  simp only[tot]
  split
  · rename_i h;have:=h.2.1;omega
  · omega
def Za2 (l:List Sp):Int:=if tot l≤Zea then tot l else Zea
theorem Zgd (l:List Sp):0≤Za2 l∧Za2 l≤4611686018427387904:=by
 have:=ZiN l;unfold Za2 Zea;split <;> omega
theorem ZC {α:Type} {l:List α} {k:Nat} {x:α} (h:l[k]? =some x):l.take (k+1)=l.take k++[x]:=by
 rw[List.take_add_one,h];rfl
theorem Zj9 {l:List Sp} {k:Nat} {x:Sp} (h:l[k]? =some x) (hx:x.ok):(Za2 (l.take k)+x.2≤Zea→Za2 (l.take (k+1))=Za2 (l.take k)+x.2)∧(Zea<Za2 (l.take k)+x.2→Za2 (l.take (k+1))=Zea):=by
 have h1:=hx.2.1
 have hc:tot (l.take (k+1))=tot (l.take k)+x.2:=by rw[ZC h,ZeB];simp[tot,hx]
 unfold Za2;rw[hc]
 split <;> split <;> omega
theorem ZiU {l:List Sp} {k:Nat} {x:Sp} (h:l[k]? =some x) (hx: ¬x.ok):Za2 (l.take (k+1))=Za2 (l.take k):=by
 have hc:tot (l.take (k+1))=tot (l.take k):=by rw[ZC h,ZeB];simp[tot,hx]
 unfold Za2;rw[hc]
def Z7 (l:List Sp):Prop:=(∀x∈l,Sp.ok x)∧l.Pairwise fun x y=> ¬Sp.meets y x
instance (l:List Sp):Decidable (Z7 l):=by unfold Z7;infer_instance
theorem Zke {l:List Sp} {i:Nat} {x:Sp} (h:l[i]? =some x) (hx: ¬x.ok): ¬Z7 l:=fun ha=>hx (ha.1 x (Yn h))
theorem Zjo {l:List Sp} {i k:Nat} {x y:Sp} (h:l[i]? =some x) (h':l[k]? =some y) (hk:k<i) (hm:Sp.meets x y): ¬Z7 l:=by
 intro ha;obtain⟨h1,rfl⟩:=Yj.1 h;obtain⟨h2,rfl⟩:=Yj.1 h';exact List.pairwise_iff_getElem.1 ha.2 k i h2 h1 hk hm
theorem Zae:(Tryz.prog.info? 61).map (fun i=>(i.zero,i.size,i.bytes))=some (some (.agg #[.int .i64 0,.int .i64 0]),2,16):=by kernel_rfl
theorem Z9 (l m:List Sp):spc (l++m)=spc l++spc m:=by simp[spc]
theorem Zhs (l:List Sp) (k:Nat):(spc l).take (k * 2)=spc (l.take k):=by
 induction l generalizing k with
 |nil=>simp[spc]
 |cons x l ih=>
  rcases k with _|k
  · simp[spc]
  · rw[show(k+1) * 2=k * 2+1+1 by omega]
    simp only[spc,List.flatMap_cons,List.take_succ_cons,List.cons_append,List.nil_append] at ih ⊢;rw[ih]
theorem Zfd (l:List Sp) (k:Nat):(spc l).drop (k * 2)=spc (l.drop k):=by
 induction l generalizing k with
 |nil=>simp[spc]
 |cons x l ih=>
  rcases k with _|k
  · simp[spc]
  · rw[show(k+1) * 2=k * 2+1+1 by omega]
    simp only[spc,List.flatMap_cons,List.drop_succ_cons,List.cons_append,List.nil_append] at ih ⊢;rw[ih]
theorem ZY (l:List Sp): ∀v∈spc l,v.oneCell'=true:=by
 intro v hv;simp only[spc,List.mem_flatMap] at hv;obtain⟨x,_,hx⟩:=hv;rcases List.mem_cons.1 hx with rfl|hx
 · rfl
 · rcases List.mem_cons.1 hx with rfl|hx
   · rfl
   · cases hx
theorem Zgp {w:World} {B:Nat} {A:Option Addr} {c k:Nat} {l:List Sp} (h:Sl w B 2 (.slice A l.length c) l.length (spc l)) (hk:k≤l.length):Sl w B 2 (ZbU A 0 k c 2) k (spc (l.take k)):=by
 have:=h.cut (Yt k) hk
 simpa[Zhs] using this
theorem ZgF {w:World} {B:Nat} {A:Option Addr} {c k:Nat} {l:List Sp} (h:Sl w B 2 (.slice A l.length c) l.length (spc l)) (hk:k≤l.length):Sl w B 2 (ZbU A k l.length c 2) (l.length - k) (spc (l.drop k)):=by
 have:=h.cut hk (Yi _)
 rw[Zfd] at this;rw[show((l.length - k) * 2)=(spc (l.drop k)).length by rw[Zar,List.length_drop],List.take_length] at this;exact this
def ZhK (l:List Sp) (k:Nat) (L:List Sp):Prop:=Zbn L∧L.Perm (l.take k)
end
section
theorem Zf4 {x y:Sp} (h:Sp.meets x y):Sp.meets y x:=⟨h.2.1,h.1,h.2.2.symm⟩
theorem Zde {x y:Sp} (hx:x.ok) (hy:y.ok):Sp.meets x y↔x.1<y.1+y.2∧y.1<x.1+x.2:=by
 unfold Sp.meets Sp.has;simp only[hx,hy,true_and];unfold Sp.ok at hx hy;omega
theorem ZeE {l m:List Sp} (h:l.Perm m):Z7 l↔Z7 m:=by
 unfold Z7;rw[h.pairwise_iff (R:=fun x y=> ¬Sp.meets y x) (fun {a b} hab hba=>hab (Zf4 hba))];exact⟨fun ⟨a,b⟩=>⟨fun x hx=>a x (h.mem_iff.2 hx),b⟩,fun ⟨a,b⟩=>⟨fun x hx=>a x (h.mem_iff.1 hx),b⟩⟩
theorem Zh4 {l:List Sp} {x:Sp} (h:Z7 l) (hx:x.ok) (hb: ∀y∈l,y.1+y.2≤x.1):Z7 (l++[x]):=by
 constructor
 · intro y hy
   rcases Yq.1 hy with hy|hy
   · exact h.1 y hy
   · rw[Ys.1 hy];exact hx
 · refine List.pairwise_append.2 ⟨h.2,List.pairwise_singleton _ _,fun a ha b hb'=>?_⟩
   rw[Ys.1 hb',Zde hx (h.1 a ha)]
   have:=hb a ha
   omega
theorem Zkw {l:List Sp} {i k:Nat} {x y:Sp} (hx:l[i]? =some x) (hy:l[k]? =some y) (hk:k<i) (h1:y.1≤x.1) (h2:x.1<y.1+y.2): ¬Z7 l:=by
 intro ha;refine Zjo hx hy hk ?_ ha;have hxo:=ha.1 x (Yn hx);have hyo:=ha.1 y (Yn hy);rw[Zde hxo hyo];unfold Sp.ok at hxo;omega
end
section
open Go.RowKit
def Fit (x:Sp):Prop:=x.1≤9223372036854775807
theorem Fit.of_ok {x:Sp} (h:x.ok):Fit x:=by unfold Sp.ok Za6 at h;unfold Fit;omega
def ZfO (l:List Sp):Prop:= ∀x∈l,Fit x
theorem ZfO.get {l:List Sp} (h:ZfO l) {k:Nat} {x:Sp} (hx:l[k]? =some x):Fit x:=h x (Yn hx)
def SpMay:Prop:= ∀(x:Sp),Fit x→ ∀(w:World),Calls Tryz.prog 87 #[.agg #[.int .i64 x.1,.int .i64 x.2]] w fun e w'=>e=.returned (.bool (decide x.ok))∧Only nob w w'
def SpWithin:Prop:= ∀(x y:Sp),Fit x→Fit y→ ∀(w:World),Calls Tryz.prog 125 #[.agg #[.int .i64 x.1,.int .i64 x.2],.agg #[.int .i64 y.1,.int .i64 y.2]] w fun e w'=>e=.returned (.bool (decide (Sp.within x y)))∧Only nob w w'
def SpApart:Prop:= ∀(v:Value) (l:List Sp) (B:Nat) (w:World),Sl w B 2 v l.length (spc l)→B≤w.heap.size→l.length≤40000→ZfO l→Calls Tryz.prog 173 #[v] w fun e w'=>e=.returned (.bool (decide (Z7 l)))∧Only nob w w'
def SpTotal:Prop:= ∀(v:Value) (l:List Sp) (B:Nat) (w:World),Sl w B 2 v l.length (spc l)→B≤w.heap.size→l.length≤40000→ZfO l→Calls Tryz.prog 86 #[v] w fun e w'=>e=.returned (.int .i64 (Za2 l))∧Only nob w w'
def SpGaps:Prop:= ∀(x:Sp) (v:Value) (l:List Sp) (B:Nat) (w:World),Sl w B 2 v l.length (spc l)→B≤w.heap.size→l.length≤30000→ZfO l→Fit x→
 Calls Tryz.prog 55 #[.agg #[.int .i64 x.1,.int .i64 x.2],v] w fun e w'=> ∃v' O,e=.returned v'∧Joined O∧(∀p,cov O p↔(x.has p∧ ¬cov l p))∧Sl w' w'.heap.size 2 v' O.length (spc O)∧Only nob w w'
end
section
open Go.ChangeShapes Go.WideShapes Go.RowKit Go.Deep Go.Joins
section
variable {H:Type} {enc:TypeId×Value→H} {w:World} {base b0:Nat} {r:Reach} {sp:Nat→Bool} {held:Bool}
end
end
end Go.Proofs.YtknoncenblehkaaGreatDoor
