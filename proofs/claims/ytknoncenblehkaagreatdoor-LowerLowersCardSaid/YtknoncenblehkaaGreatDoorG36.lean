/- A graph as a heap, lifted, and lowered again: the same heap; What chapter 20 asks, said node by node: where the next node -/
import Derived.Test.YtknoncenblehkaaGreatDoorG35
set_option maxRecDepth 100000
set_option maxHeartbeats 32000000
set_option linter.unusedSimpArgs false
set_option linter.unusedVariables false
namespace Go.Proofs.YtknoncenblehkaaGreatDoor
section
open Go.RowKit
section
variable {c:Cf} {sec:Bool} {g:Gr}
theorem Zho (c:Cf): ∀(l m:List Nd),sSm c (l++m)=sSm c l+sSm c m
 |[],m=>by simp[sSm]
 |d::l,m=>by simp only[List.cons_append,sSm,Zho c l m];omega
theorem Zg2 (c:Cf): ∀(l m:List Nd),sBg c (l++m)=sBg c l+sBg c m
 |[],m=>by simp[sBg]
 |d::l,m=>by simp only[List.cons_append,sBg,Zg2 c l m];omega
theorem Zmr {pl:List Int} {ds:List Nd} (hl:pl.length=ds.length) {x:Nat×List Nat}:x∈rowsOf pl ds↔ ∃(i:Nat) (p:Int) (d:Nd),pl[i]? =some p∧ds[i]? =some d∧x=(p.toNat,rowW pl d):=by
 unfold rowsOf;constructor
 · intro hx
   obtain⟨q,hq,rfl⟩:=List.mem_map.1 hx;obtain⟨i,hi⟩:=List.getElem?_of_mem hq;obtain⟨h1,h2⟩:=List.getElem?_zip_eq_some.1 hi;exact⟨i,q.1,q.2,h1,h2,rfl⟩
 · rintro⟨i,p,d,h1,h2,rfl⟩
   exact List.mem_map.2 ⟨(p,d),Yn (i:=i) (List.getElem?_zip_eq_some.2 ⟨h1,h2⟩),rfl⟩
end
end
section
open Go.RowKit
theorem Zgb (c:Cf) (d:Nd): ∀(l:List Nd) (t b:Int),plL c t b (l++[d])=plL c t b l++[if ZaD c d=true then t+sSm c l else b+sBg c l]
 |[],t,b=>by cases hd:ZaD c d <;> simp[plL,sSm,sBg,hd]
 |x::l,t,b=>by
  have ih:=Zgb c d l
  cases hx:ZaD c x <;> simp[plL,sSm,sBg,hx,ih,Int.add_assoc]
theorem ZgP (c:Cf) (d:Nd): ∀(l:List Nd) (b:Int),tbL c b (l++[d])=tbL c b l++(if ZaD c d=true then[] else[(b+sBg c l,ndSz d)])
 |[],b=>by cases hd:ZaD c d <;> simp[tbL,sBg,hd]
 |x::l,b=>by
  have ih:=ZgP c d l
  cases hx:ZaD c x <;> simp[tbL,sBg,hx,ih,Int.add_assoc]
theorem ZdT {l:List Nd} {k:Nat} {d:Nd} (h:l[k]? =some d):l.take (k+1)=l.take k++[d]:=by rw[List.take_add_one,h];rfl
section
variable {c:Cf} {ds:List Nd} {k:Nat} {d:Nd}
theorem ZcG (h:ds[k]? =some d) (hs:ZaD c d=true) (t b:Int):sSm c (ds.take (k+1))=sSm c (ds.take k)+ndSz d∧sBg c (ds.take (k+1))=sBg c (ds.take k)∧plL c t b (ds.take (k+1))=plL c t b (ds.take k)++[t+sSm c (ds.take k)]∧tbL c b (ds.take (k+1))=tbL c b (ds.take k):=by
 rw[ZdT h,Zho,Zg2,Zgb,ZgP];simp[sSm,sBg,hs]
theorem Zch (h:ds[k]? =some d) (hs:ZaD c d=false) (t b:Int):sSm c (ds.take (k+1))=sSm c (ds.take k)∧sBg c (ds.take (k+1))=sBg c (ds.take k)+ndSz d∧plL c t b (ds.take (k+1))=plL c t b (ds.take k)++[b+sBg c (ds.take k)]∧tbL c b (ds.take (k+1))=tbL c b (ds.take k)++[(b+sBg c (ds.take k),ndSz d)]:=by
 rw[ZdT h,Zho,Zg2,Zgb,ZgP];simp[sSm,sBg,hs]
theorem Zhm (h:ZcJ ds) (k:Nat):ZcJ (ds.take k):=fun x hx=>h x (List.mem_of_mem_take hx)
theorem Zas (h:ZcJ ds) (k:Nat):0≤sSm c (ds.take k)∧0≤sBg c (ds.take k)∧sSm c (ds.take k)≤sSm c ds∧sBg c (ds.take k)≤sBg c ds:=by
 have h1:=Z3 (c:=c) (Zhm h k);have h2:=Z3 (c:=c) (ds:=ds.drop k) fun x hx=>h x (List.mem_of_mem_drop hx);have h3:=Zho c (ds.take k) (ds.drop k);have h4:=Zg2 c (ds.take k) (ds.drop k);rw[List.take_append_drop] at h3 h4;omega
end
def loE (c:Cf) (sec:Bool) (g:Gr):Int:=
 if c.ok then(if Zb6 g=true then(if c.slots<(g.rt.length:Int) then 8 else if loT c sec+sSm c g.nd≤ZaX c sec∧loB c+sBg c g.nd≤ZD c then 0 else 9) else 4) else 1
section
variable {c:Cf} {sec:Bool} {g:Gr}
theorem Zb4:loE c sec g=0↔LoOk c sec g:=by
 unfold loE;constructor
 · intro h
   repeat' split at h
   all_goals first|cases h|skip
   rename_i h1 h2 h3 h4
   exact⟨h1,h2,by omega,h4.1,h4.2⟩
 · rintro⟨h1,h2,h3,h4,h5⟩
   rw[if_pos h1,if_pos h2,if_neg (by omega),if_pos ⟨h4,h5⟩]
theorem Zk1 (h: ¬c.ok):loE c sec g=1:=if_neg h
theorem Zhf (h:c.ok) (h2: ¬Zb6 g=true):loE c sec g=4:=by unfold loE;rw[if_pos h,if_neg h2]
theorem ZdI (h:c.ok) (h2:Zb6 g=true) (h3:c.slots<(g.rt.length:Int)):loE c sec g=8:=by unfold loE;rw[if_pos h,if_pos h2,if_pos h3]
theorem ZlT (h:c.ok) (h2:Zb6 g=true) (h3: ¬c.slots<(g.rt.length:Int)) (h4: ¬(loT c sec+sSm c g.nd≤ZaX c sec∧loB c+sBg c g.nd≤ZD c)):loE c sec g=9:=by unfold loE;rw[if_pos h,if_pos h2,if_neg h3,if_neg h4]
theorem ZlF (h:c.ok):frL (loB c) (ZD c)=if 0<c.large then[Ze c] else[]:=by
 have h':=h;unfold Cf.ok at h'
 rcases Zay h with⟨e1,e2,e3⟩|⟨e1,e2,e3⟩
 · rw[if_pos (by omega)]
   have a2:(Ze c).1+(Ze c).2=ZD c:=rfl;have a1:(Ze c).1=loB c:=rfl;unfold frL;rw[if_neg (by omega),show ZD c - loB c=(Ze c).2 by omega, ← a1]
 · rw[if_neg (by omega)]
   unfold frL;rw[if_pos (by omega)]
def noS:St:=⟨⟨0,0,0,0⟩,false,[],0,[],[],[]⟩
def ZmW (c:Cf) (sec:Bool) (g:Gr):St:=if loE c sec g=0 then ZaK c sec g else noS
def Zja (c:Cf) (sec:Bool) (g:Gr):List Int:=if loE c sec g=0 then loPl c sec g else[]
theorem LoOk.bounds (h:LoOk c sec g):(loPl c sec g).length=g.nd.length∧(tbL c (loB c) g.nd).length≤g.nd.length∧(frL (loB c+sBg c g.nd) (ZD c)).length≤1:=by
 refine⟨Zbo ..,?_,?_⟩
 · have key: ∀(l:List Nd) (b:Int),(tbL c b l).length≤l.length:=by
    intro l
    induction l with
    |nil=>intro b;exact Yi _
    |cons x l ih=>
     intro b
     cases hx:ZaD c x
     · simp only[tbL,hx,Bool.false_eq_true,if_false,List.length_cons]
       have:=ih (b+ndSz x);omega
     · simp only[tbL,hx,if_true,List.length_cons]
       have:=ih b;omega
   exact key _ _
 · unfold frL
   split <;> simp
theorem Zou (n x:Nat):wd (List.replicate n 0) x=0:=by
 unfold wd;rw[Ym,List.getElem?_replicate]
 split <;> rfl
theorem LoOk.row_words (h:LoOk c sec g) (hfit:GrFit g) {d:Nd} (hd:d∈g.nd): ∀z∈rowW (loPl c sec g) d,z<18446744073709551616:=fun z hz=>by
 unfold rowW at hz;rcases List.mem_cons.1 hz with rfl|hz
 · exact(ZmN (Zjq (h.nd_ok hd))).2.2.2.2.2.2
 · rcases Yq.1 hz with hz|hz
   · obtain⟨v,hv,rfl⟩:=List.mem_map.1 hz
     exact(h.val ((Zbe.1 (h.nd_ok hd)).2.2.2 v hv)).2.2.2
   · exact hfit.rs d hd z hz
theorem LoOk.words (h:LoOk c sec g) (hfit:GrFit g):Zbt (loW c sec g):=fun z hz=>by
 obtain⟨x,hx⟩:=List.getElem?_of_mem hz
 have e:wd (loW c sec g) x=z:=by unfold wd;rw[Ym,hx];rfl
 rw[← e];obtain⟨a1,a2⟩:=ZeR x _ _ h.inW h.apart;show wd (Zav _ _) x<18446744073709551616;by_cases hq: ∃y∈rowsOf (loPl c sec g) g.nd,y.1≤x∧x<y.1+y.2.length
 · obtain⟨y,hy,k1,k2⟩:=hq
   rw[a1 y hy k1 k2];obtain⟨q,hq,rfl⟩:=List.mem_map.1 hy;have hm:q.2∈g.nd:=(List.of_mem_zip (a:=q.1) (b:=q.2) hq).2;refine h.row_words hfit hm _ ?_;simp only at k2 ⊢;unfold wd;rw[Ym,Ya (by omega)];exact List.getElem_mem _
 · rw[a2 fun y hy hh=>hq ⟨y,hy,hh⟩,Zou]
   decide
theorem LoOk.st_ok (h:LoOk c sec g) (hfit:GrFit g) (hc:CFit c) (hn:g.nd.length≤1000):StOk (ZaK c sec g):=by
 obtain⟨b1,b2,b3⟩:=h.bounds;have hok:=h.ok;have hw:=Za7 h.ok;have hl:=h.wlen;have hf:=Zby (sec:=sec) h.ok;have hs:=h.small;have hg:=h.big;have hp:=Z3 (c:=c) h.szs;have hsl:=h.slot_len;have hlg:=Zay h.ok;unfold Cf.ok at hok;obtain⟨r1, -, -⟩:=ZeC (c:=c) g.nd (loB c) h.szs;refine⟨hc,h.words hfit,?_,?_,?_,?_,?_,?_,?_,?_⟩
 · show I64 (loT c sec+sSm c g.nd)
   unfold I64;omega
 · intro x hx
   have:=r1 x hx
   exact⟨by unfold I64;omega,by unfold I64;omega⟩
 · intro x hx
   have hx':x∈frL (loB c+sBg c g.nd) (ZD c):=hx;unfold frL at hx'
   split at hx'
   · cases hx'
   · rw[Ys.1 hx']
     exact⟨by unfold I64;simp only;omega,by unfold I64;simp only;omega⟩
 · intro t ht
   rcases h.slot_is ht with⟨v,hv,e⟩|e
   · rw[e]
     exact⟨by simp only;omega,by simp only;omega,(h.val ((ZO.1 h.may).2 v hv)).2.2.2⟩
   · rw[e]
     exact⟨by decide,by decide,by decide⟩
 · show(loW c sec g).length≤98304
   omega
 · show(tbL c (loB c) g.nd).length≤1000
   omega
 · show(frL _ _).length≤1000
   omega
 · show(Zec c sec g).length≤2000
   omega
end
end
end Go.Proofs.YtknoncenblehkaaGreatDoor
