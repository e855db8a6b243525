/- What chapter 20 asks, said node by node: where the next node What chapter 20 asks, said step by step: so far there is roo What is asked of package lower, and of the document's own. The document's own answer for layer 20: a value's word; node The document's own answer for layer 20: nodes written at the Package lower: a value's word. -/
import Derived.Test.YtknoncenblehkaaGreatDoorE35
set_option maxRecDepth 100000
set_option maxHeartbeats 32000000
set_option linter.unusedSimpArgs false
set_option linter.unusedVariables false
namespace Go.Proofs.YtknoncenblehkaaGreatDoor
section
open Go.RowKit
theorem ZgF (c:Cf) (d:Nd): ∀(l:List Nd) (t b:Int),plL c t b (l++[d])=plL c t b l++[if ZK c d=true then t+sSm c l else b+sBg c l]
 |[],t,b=>by cases hd:ZK c d <;> simp[plL,sSm,sBg,hd]
 |x::l,t,b=>by
  have ih:=ZgF c d l
  cases hx:ZK c x <;> simp[plL,sSm,sBg,hx,ih,Int.add_assoc]
theorem Zha (c:Cf) (d:Nd): ∀(l:List Nd) (b:Int),tbL c b (l++[d])=tbL c b l++(if ZK c d=true then[] else[(b+sBg c l,ndSz d)])
 |[],b=>by cases hd:ZK c d <;> simp[tbL,sBg,hd]
 |x::l,b=>by
  have ih:=Zha c d l
  cases hx:ZK c x <;> simp[tbL,sBg,hx,ih,Int.add_assoc]
theorem ZdW {l:List Nd} {k:Nat} {d:Nd} (h:l[k]? =some d):l.take (k+1)=l.take k++[d]:=by rw[List.take_add_one,h];rfl
section
variable {c:Cf} {ds:List Nd} {k:Nat} {d:Nd}
theorem Zer (h:ds[k]? =some d) (hs:ZK c d=true) (t b:Int):sSm c (ds.take (k+1))=sSm c (ds.take k)+ndSz d∧sBg c (ds.take (k+1))=sBg c (ds.take k)∧plL c t b (ds.take (k+1))=plL c t b (ds.take k)++[t+sSm c (ds.take k)]∧tbL c b (ds.take (k+1))=tbL c b (ds.take k):=by
 rw[ZdW h,ZfJ,Zf2,ZgF,Zha];simp[sSm,sBg,hs]
theorem Zfl (h:ds[k]? =some d) (hs:ZK c d=false) (t b:Int):sSm c (ds.take (k+1))=sSm c (ds.take k)∧sBg c (ds.take (k+1))=sBg c (ds.take k)+ndSz d∧plL c t b (ds.take (k+1))=plL c t b (ds.take k)++[b+sBg c (ds.take k)]∧tbL c b (ds.take (k+1))=tbL c b (ds.take k)++[(b+sBg c (ds.take k),ndSz d)]:=by
 rw[ZdW h,ZfJ,Zf2,ZgF,Zha];simp[sSm,sBg,hs]
theorem ZmW (h:ZcW ds) (k:Nat):ZcW (ds.take k):=fun x hx=>h x (List.mem_of_mem_take hx)
theorem Zbl (h:ZcW ds) (k:Nat):0≤sSm c (ds.take k)∧0≤sBg c (ds.take k)∧sSm c (ds.take k)≤sSm c ds∧sBg c (ds.take k)≤sBg c ds:=by
 have h1:=ZU (c:=c) (ZmW h k);have h2:=ZU (c:=c) (ds:=ds.drop k) fun x hx=>h x (List.mem_of_mem_drop hx);have h3:=ZfJ c (ds.take k) (ds.drop k);have h4:=Zf2 c (ds.take k) (ds.drop k);rw[List.take_append_drop] at h3 h4;omega
end
def loE (c:Cf) (sec:Bool) (g:Gr):Int:=
 if c.ok then(if ZP g=true then(if c.slots<(g.rt.length:Int) then 8 else if loT c sec+sSm c g.nd≤ZbD c sec∧loB c+sBg c g.nd≤ZC c then 0 else 9) else 4) else 1
section
variable {c:Cf} {sec:Bool} {g:Gr}
theorem Ze3:loE c sec g=0↔LoOk c sec g:=by
 unfold loE;constructor
 · intro h
   repeat' split at h
   all_goals first|cases h|skip
   rename_i h1 h2 h3 h4
   exact⟨h1,h2,by omega,h4.1,h4.2⟩
 · rintro⟨h1,h2,h3,h4,h5⟩
   rw[if_pos h1,if_pos h2,if_neg (by omega),if_pos ⟨h4,h5⟩]
theorem Zo1 (h: ¬c.ok):loE c sec g=1:=if_neg h
theorem ZmB (h:c.ok) (h2: ¬ZP g=true):loE c sec g=4:=by unfold loE;rw[if_pos h,if_neg h2]
theorem ZfT (h:c.ok) (h2:ZP g=true) (h3:c.slots<(g.rt.length:Int)):loE c sec g=8:=by unfold loE;rw[if_pos h,if_pos h2,if_pos h3]
theorem Zmv (h:c.ok) (h2:ZP g=true) (h3: ¬c.slots<(g.rt.length:Int)) (h4: ¬(loT c sec+sSm c g.nd≤ZbD c sec∧loB c+sBg c g.nd≤ZC c)):loE c sec g=9:=by unfold loE;rw[if_pos h,if_pos h2,if_neg h3,if_neg h4]
theorem Znd (h:c.ok):frL (loB c) (ZC c)=if 0<c.large then[Zd c] else[]:=by
 have h':=h;unfold Cf.ok at h'
 rcases Zaj h with⟨e1,e2,e3⟩|⟨e1,e2,e3⟩
 · rw[if_pos (by omega)]
   have a2:(Zd c).1+(Zd c).2=ZC c:=rfl;have a1:(Zd c).1=loB c:=rfl;unfold frL;rw[if_neg (by omega),show ZC c - loB c=(Zd c).2 by omega, ← a1]
 · rw[if_neg (by omega)]
   unfold frL;rw[if_pos (by omega)]
def noS:St:=⟨⟨0,0,0,0⟩,false,[],0,[],[],[]⟩
def Zpd (c:Cf) (sec:Bool) (g:Gr):St:=if loE c sec g=0 then Z7 c sec g else noS
def Zps (c:Cf) (sec:Bool) (g:Gr):List Int:=if loE c sec g=0 then loPl c sec g else[]
theorem LoOk.bounds (h:LoOk c sec g):(loPl c sec g).length=g.nd.length∧(tbL c (loB c) g.nd).length≤g.nd.length∧(frL (loB c+sBg c g.nd) (ZC c)).length≤1:=by
 refine⟨Za7 ..,?_,?_⟩
 · have key: ∀(l:List Nd) (b:Int),(tbL c b l).length≤l.length:=by
    intro l
    induction l with
    |nil=>intro b;exact Yj _
    |cons x l ih=>
     intro b
     cases hx:ZK c x
     · simp only[tbL,hx,Bool.false_eq_true,if_false,List.length_cons]
       have:=ih (b+ndSz x);omega
     · simp only[tbL,hx,if_true,List.length_cons]
       have:=ih b;omega
   exact key _ _
 · unfold frL
   split <;> simp
theorem ZpC (n x:Nat):wd (List.replicate n 0) x=0:=by
 unfold wd;rw[Yn,List.getElem?_replicate]
 split <;> rfl
theorem LoOk.row_words (h:LoOk c sec g) (hfit:GrFit g) {d:Nd} (hd:d∈g.nd): ∀z∈rowW (loPl c sec g) d,z<18446744073709551616:=fun z hz=>by
 unfold rowW at hz;rcases List.mem_cons.1 hz with rfl|hz
 · exact(ZnL (ZlM (h.nd_ok hd))).2.2.2.2.2.2
 · rcases Yr.1 hz with hz|hz
   · obtain⟨v,hv,rfl⟩:=List.mem_map.1 hz
     exact(h.val ((ZS.1 (h.nd_ok hd)).2.2.2 v hv)).2.2.2
   · exact hfit.rs d hd z hz
theorem LoOk.words (h:LoOk c sec g) (hfit:GrFit g):ZaD (loW c sec g):=fun z hz=>by
 obtain⟨x,hx⟩:=List.getElem?_of_mem hz
 have e:wd (loW c sec g) x=z:=by unfold wd;rw[Yn,hx];rfl
 rw[← e];obtain⟨a1,a2⟩:=Zb1 x _ _ h.inW h.apart;show wd (ZaZ _ _) x<18446744073709551616;by_cases hq: ∃y∈rowsOf (loPl c sec g) g.nd,y.1≤x∧x<y.1+y.2.length
 · obtain⟨y,hy,k1,k2⟩:=hq
   rw[a1 y hy k1 k2];obtain⟨q,hq,rfl⟩:=List.mem_map.1 hy;have hm:q.2∈g.nd:=(List.of_mem_zip (a:=q.1) (b:=q.2) hq).2;refine h.row_words hfit hm _ ?_;simp only at k2 ⊢;unfold wd;rw[Yn,Ya (by omega)];exact List.getElem_mem _
 · rw[a2 fun y hy hh=>hq ⟨y,hy,hh⟩,ZpC]
   decide
theorem LoOk.st_ok (h:LoOk c sec g) (hfit:GrFit g) (hc:CFit c) (hn:g.nd.length≤1000):StOk (Z7 c sec g):=by
 obtain⟨b1,b2,b3⟩:=h.bounds;have hok:=h.ok;have hw:=Zcg h.ok;have hl:=h.wlen;have hf:=Zch (sec:=sec) h.ok;have hs:=h.small;have hg:=h.big;have hp:=ZU (c:=c) h.szs;have hsl:=h.slot_len;have hlg:=Zaj h.ok;unfold Cf.ok at hok;obtain⟨r1, -, -⟩:=Zgm (c:=c) g.nd (loB c) h.szs;refine⟨hc,h.words hfit,?_,?_,?_,?_,?_,?_,?_,?_⟩
 · show I64 (loT c sec+sSm c g.nd)
   unfold I64;omega
 · intro x hx
   have:=r1 x hx
   exact⟨by unfold I64;omega,by unfold I64;omega⟩
 · intro x hx
   have hx':x∈frL (loB c+sBg c g.nd) (ZC c):=hx;unfold frL at hx'
   split at hx'
   · cases hx'
   · rw[Yt.1 hx']
     exact⟨by unfold I64;simp only;omega,by unfold I64;simp only;omega⟩
 · intro t ht
   rcases h.slot_is ht with⟨v,hv,e⟩|e
   · rw[e]
     exact⟨by simp only;omega,by simp only;omega,(h.val ((Zt.1 h.may).2 v hv)).2.2.2⟩
   · rw[e]
     exact⟨by decide,by decide,by decide⟩
 · show(loW c sec g).length≤98304
   omega
 · show(tbL c (loB c) g.nd).length≤1000
   omega
 · show(frL _ _).length≤1000
   omega
 · show(ZeY c sec g).length≤2000
   omega
end
end
section
open Go.RowKit
def Zu (c:Cf) (sec:Bool) (ds:List Nd) (k:Nat):Prop:=loT c sec+sSm c (ds.take k)≤ZbD c sec∧loB c+sBg c (ds.take k)≤ZC c
section
variable {c:Cf} {sec:Bool} {ds:List Nd} {k:Nat} {d:Nd}
theorem ZiL (h:c.ok):Zu c sec ds 0:=by
 have h1:=Zch (sec:=sec) h;have h2:=Zaj h;have h3:=h;unfold Cf.ok at h3;unfold Zu;simp only[List.take_zero,sSm,sBg];omega
theorem Zjt (h:ds[k]? =some d) (hs:ZK c d=true) (hr:Zu c sec ds k):Zu c sec ds (k+1)↔loT c sec+sSm c (ds.take k)+ndSz d≤ZbD c sec:=by
 obtain⟨n1,n2, -⟩:=Zer (c:=c) h hs 0 0;unfold Zu at hr ⊢;rw[n1,n2];omega
theorem Znb (h:ds[k]? =some d) (hs:ZK c d=false) (hr:Zu c sec ds k):Zu c sec ds (k+1)↔loB c+sBg c (ds.take k)+ndSz d≤ZC c:=by
 obtain⟨n1,n2, -⟩:=Zfl (c:=c) h hs 0 0;unfold Zu at hr ⊢;rw[n1,n2];omega
theorem Zmk (hz:ZcW ds) (k:Nat) (h:Zu c sec ds ds.length):Zu c sec ds k:=by
 have hl:=Zbl (c:=c) hz k;unfold Zu at h ⊢;rw[List.take_length] at h;omega
theorem ZgB (hc:c.ok) (hz:ZcW ds) (hr:Zu c sec ds k) (hd:ds[k]? =some d):Sp.within (loT c sec+sSm c (ds.take k),ndSz d) (Zi c sec)↔loT c sec+sSm c (ds.take k)+ndSz d≤ZbD c sec:=by
 have hl:=Zbl (c:=c) hz k;have hf:=Zch (sec:=sec) hc;have hsz:=hz d (Yo hd);have hb:=ZD hc sec;have hc':=hc;unfold Cf.ok at hc';unfold Zu at hr;have e1:loT c sec=(Zi c sec).1:=rfl;have e2:ZbD c sec=(Zi c sec).1+(Zi c sec).2:=rfl;unfold Sp.within Sp.has Sp.ok ZbC;simp only;omega
variable {g:Gr}
theorem ZeO (h:c.ok) (h2:ZP g=true) (h3: ¬c.slots<(g.rt.length:Int)) (h4:Zu c sec g.nd g.nd.length):loE c sec g=0:=by
 unfold Zu at h4;rw[List.take_length] at h4;unfold loE;rw[if_pos h,if_pos h2,if_neg h3,if_pos h4]
theorem Zpj (h:c.ok) (h2:ZP g=true) (h3: ¬c.slots<(g.rt.length:Int)) (h4: ¬Zu c sec g.nd g.nd.length):loE c sec g=9:=by
 unfold Zu at h4;rw[List.take_length] at h4;exact Zmv h h2 h3 h4
theorem ZjV (h:ZP g=true):ZcW g.nd:=fun d hd=>(Zeh ((Zt.1 h).1 d hd)).2
def loFr (c:Cf) (ds:List Nd) (k:Nat):List Sp:=frL (loB c+sBg c (ds.take k)) (ZC c)
theorem Zmf:(loFr c ds k).length≤1:=by unfold loFr frL;split <;> simp
theorem Zbp (h:c.ok):0≤loB c∧loB c≤ZC c∧ZC c≤98304:=by
 have h2:=Zaj h;have h3:=h;unfold Cf.ok at h3;omega
theorem Zme (h:c.ok) (hz:ZcW ds) (hd:ds[k]? =some d) (hs:ZK c d=false) (hr:loB c+sBg c (ds.take k)+ndSz d≤ZC c):ZbE (loFr c ds k) (ndSz d)=(loFr c ds (k+1),loB c+sBg c (ds.take k),0):=by
 obtain⟨n1,n2, -⟩:=Zfl (c:=c) hd hs 0 0;have hb:=Zbp h;have hl:=Zbl (c:=c) hz k;have hsz:=hz d (Yo hd);unfold loFr;rw[(ZhN (by omega) hsz.1 (by unfold ZbC;omega) (by omega)).1 hr,n2,Int.add_assoc]
theorem ZoI (h:c.ok) (hz:ZcW ds) (hd:ds[k]? =some d) (hb0:loB c+sBg c (ds.take k)≤ZC c) (hr: ¬loB c+sBg c (ds.take k)+ndSz d≤ZC c):ZbE (loFr c ds k) (ndSz d)=(loFr c ds k,0,9):=by
 have hb:=Zbp h;have hl:=Zbl (c:=c) hz k;have hsz:=hz d (Yo hd);unfold loFr;rw[(ZhN (by omega) hsz.1 (by unfold ZbC;omega) hb0).2 hr]
theorem Zoy (h:c.ok) (hz:ZcW ds) (hb0:loB c+sBg c (ds.take k)≤ZC c):ZfD (loFr c ds k):=fun x hx=>by
 have hb:=Zbp h;have hl:=Zbl (c:=c) hz k;unfold loFr frL at hx
 split at hx
 · cases hx
 · rw[Yt.1 hx]
   unfold Fit;simp only;omega
theorem ZoH (c:Cf) (b:Int): ∀(l:List Nd),(tbL c b l).length≤l.length:=fun l=>by
 induction l generalizing b with
 |nil=>exact Yj _
 |cons x l ih=>
  cases hx:ZK c x
  · simp only[tbL,hx,Bool.false_eq_true,if_false,List.length_cons]
    have:=ih (b+ndSz x);omega
  · simp only[tbL,hx,if_true,List.length_cons]
    have:=ih b;omega
end
end
section
open Go.RowKit Go.Lib
structure In20 (w:World) (B:Nat) (c:Cf) (g:Gr) (vn vr:Value) (hs:List (Value×Value)):Prop where
 rd:RdG w B g vn vr hs
 size:B≤w.heap.size
 fit:GrFit g
 cfit:CFit c
 nodes:g.nd.length≤1000
 roots:g.rt.length≤1000
 par:Par w
def Zrb (f:FuncId):Prop:= ∀(c:Cf) (sec:Bool) (g:Gr) (vn vr:Value) (hs:List (Value×Value)) (B:Nat) (w:World),In20 w B c g vn vr hs→
 Calls Tryz.prog f #[.agg #[.int .i64 c.semi,.int .i64 c.large,.int .i64 c.slots,.int .i64 c.limit],.bool sec,.agg #[vn,vr]] w fun e w'=> ∃s vw vt vf vs,s=Zpd c sec g∧e=.returned (.tuple #[.agg #[.int .i64 s.cf.semi,.int .i64 s.cf.large,.int .i64 s.cf.slots,.int .i64 s.cf.limit,.bool s.sec,vw,.int .i64 s.top,vt,vf,vs],.int .i64 (loE c sec g)])∧Rd w' w'.heap.size s vw vt vf vs∧Only nob w w'
def Zq9 (f:FuncId):Prop:= ∀(c:Cf) (sec:Bool) (g:Gr) (vn vr:Value) (hs:List (Value×Value)) (B:Nat) (w:World),In20 w B c g vn vr hs→
 Calls Tryz.prog f #[.agg #[.int .i64 c.semi,.int .i64 c.large,.int .i64 c.slots,.int .i64 c.limit],.bool sec,.agg #[vn,vr]] w fun e w'=> ∃v,e=.returned (.tuple #[v,.int .i64 (loE c sec g)])∧Sl w' w'.heap.size 1 v (Zps c sec g).length (i64s (Zps c sec g))∧Only nob w w'
def Zrc (f:FuncId):Prop:= ∀(c:Cf) (g:Gr) (vn vr:Value) (hs:List (Value×Value)) (B:Nat) (w:World),In20 w B c g vn vr hs→
 Calls Tryz.prog f #[.agg #[.int .i64 c.semi,.int .i64 c.large,.int .i64 c.slots,.int .i64 c.limit],.agg #[vn,vr]] w fun e w'=>e=.returned (.bool (decide (loE c false g=0)))∧Only nob w w'
structure LoC:Prop where
 lower:Zrb 8
 places:Zq9 10
 fits:Zrc 14
theorem In20.keep {w w':World} {B:Nat} {c:Cf} {g:Gr} {vn vr:Value} {hs:List (Value×Value)} (h:In20 w B c g vn vr hs) (o:Only nob w w'):In20 w' B c g vn vr hs:=
 ⟨h.rd.only o h.size,Yi h.size o.size,h.fit,h.cfit,h.nodes,h.roots,h.par.old o⟩
theorem Zbu {c:Cf} {sec:Bool} {g:Gr} (h:loE c sec g=0):Zpd c sec g=Z7 c sec g∧Zps c sec g=loPl c sec g:=by unfold Zpd Zps;rw[if_pos h,if_pos h];exact⟨rfl,rfl⟩
theorem Zfw {c:Cf} {sec:Bool} {g:Gr} (h:loE c sec g≠0):Zpd c sec g=noS∧Zps c sec g=[]:=by unfold Zpd Zps;rw[if_neg h,if_neg h];exact⟨rfl,rfl⟩
theorem Zpk (k x:Int):0≤Zd3 k x:=by
 unfold Zd3
 split <;> omega
theorem Zof (pl:List Int) (v:Sp):((Zbk pl v:Nat):Int)=Zd3 v.1 (tgt pl v):=by
 have:=Zpk v.1 (tgt pl v)
 unfold Zbk;omega
theorem Zf3 {l r:List Nat} {p m x:Nat} (hx:r[m]? =some x) (h:p+r.length≤l.length):(Zbq l p (r.take m)).set (p+m) x=Zbq l p (r.take (m+1)):=by
 have hm:=(Yk.1 hx).1
 have hl1:(r.take m).length=m:=by rw[List.length_take];omega
 have hl2:(r.take (m+1)).length=m+1:=by rw[List.length_take];omega
 refine ZlI ?_ fun y hy=>?_
 · rw[List.length_set,Zaw (by omega),Zaw (by omega)]
 · rw[Zcu (by omega)]
   have e: ∀(a:List Nat) (i z:Nat),i<a.length→wd (a.set i z) y=if y=i then z else wd a y:=fun a i z hi=>by
    unfold wd;rw[Yn,Yn,List.getElem?_set];by_cases hyi:y=i
    · rw[if_pos hyi.symm,if_pos hyi,if_pos hi];rfl
    · rw[if_neg (fun hh=>hyi hh.symm),if_neg hyi]
   rw[e _ _ _ (by rw[Zaw (by omega)];omega),Zcu (by omega),hl1,hl2]
   have g: ∀k j,j<k→wd (r.take k) j=wd r j:=fun k j hj=>by
    unfold wd;rw[Yn,Yn,List.getElem?_take,if_pos hj]
   by_cases h1:y=p+m
   · rw[if_pos h1,if_pos (by omega),g _ _ (by omega),h1,show p+m - p=m by omega]
     unfold wd;rw[Yn,hx];rfl
   · rw[if_neg h1]
     by_cases h2:p≤y∧y<p+m
     · rw[if_pos h2,if_pos (by omega),g _ _ (by omega),g _ _ (by omega)]
     · rw[if_neg h2,if_neg (by omega)]
theorem Zm1 (l:List Nat) (p:Nat):Zbq l p []=l:=by unfold Zbq;simp
theorem Zek (x:Nat×List Nat): ∀(ps:List (Nat×List Nat)) (l:List Nat),ZaZ (ps++[x]) l=Zbq (ZaZ ps l) x.1 x.2
 |[],l=>rfl
 |y::ps,l=>Zek x ps (Zbq l y.1 y.2)
structure WrOk (n:Nat) (pl:List Int) (ds:List Nd):Prop where
 len:pl.length=ds.length
 fits: ∀(i:Nat) p d,pl[i]? =some p→ds[i]? =some d→0≤p∧p.toNat+(rowW pl d).length≤n
 may: ∀d∈ds,hmay d.kd d.fs.length d.rs.length 0=true
 lead: ∀d∈ds, ∀v∈d.fs,v.1=2→0≤v.2∧v.2<(pl.length:Int)
theorem Zi6 {pl:List Int} {ds:List Nd} (h:pl.length=ds.length):(rowsOf pl ds).length=ds.length:=by
 unfold rowsOf;rw[List.length_map,List.length_zip,h,Nat.min_self]
theorem Zkb {pl:List Int} {ds:List Nd} {i:Nat} {p:Int} {d:Nd} (h1:pl[i]? =some p) (h2:ds[i]? =some d):(rowsOf pl ds)[i]? =some (p.toNat,rowW pl d):=by
 unfold rowsOf;have hz:(pl.zip ds)[i]? =some (p,d):=List.getElem?_zip_eq_some.2 ⟨h1,h2⟩;rw[List.getElem?_map,hz];rfl
theorem WrOk.inW {n:Nat} {pl:List Int} {ds:List Nd} (h:WrOk n pl ds):InW n (rowsOf pl ds):=fun x hx=>by
 obtain⟨i,p,d,h1,h2,rfl⟩:=(Ze7 h.len).1 hx;exact(h.fits i p d h1 h2).2
theorem WrOk.wr_len {n:Nat} {pl:List Int} {ds:List Nd} (h:WrOk n pl ds) (k:Nat):(ZaZ ((rowsOf pl ds).take k) (List.replicate n 0)).length=n:=by
 rw[Zbj _ _ fun x hx=>by rw[List.length_replicate];exact h.inW x (List.mem_of_mem_take hx),List.length_replicate]
theorem LoOk.wrOk {c:Cf} {sec:Bool} {g:Gr} (h:LoOk c sec g):WrOk (Zl c).toNat (loPl c sec g) g.nd:=by
 refine⟨Za7 ..,fun i p d hp hd=>?_,fun d hd=>ZlM (h.nd_ok hd),fun d hd v hv h2=>?_⟩
 · obtain⟨z1,z2⟩:=ZdP (c:=c) (sec:=sec) hd
   obtain rfl:p=atP c sec g i:=by rw[hp] at z1;exact Yp z1
   have a:=h.at_in z2;have l:=h.len_of z2;have w:=Zcg h.ok;simp only at a l;exact⟨a.1,by omega⟩
 · obtain⟨i,h3,h4, -⟩:=(h.tgt ((ZS.1 (h.nd_ok hd)).2.2.2 v hv)).2.1 h2
   have:(loPl c sec g).length=g.nd.length:=Za7 ..
   omega
theorem ZoU {d:Nd} (h:hmay d.kd d.fs.length d.rs.length 0=true):hEW d.kd d.fs.length d.rs.length false 0=(hdW d:Nat):=by
 rw[ZlE false h]
 have:=ZqS false h
 unfold hdW;omega
theorem Znx (pl:List Int) (v:Sp) (pv:Value) (B:Nat) (w:World) (h:Sl w B 1 pv pl.length (i64s pl)) (hB:B≤w.heap.size) (hv:v.1=2→0≤v.2∧v.2<(pl.length:Int)):
 Calls Tryz.prog 22 #[.agg #[.int .i64 v.1,.int .i64 v.2],pv] w fun e w'=>e=.returned (.int .u64 (Zbk pl v:Nat))∧Only nob w w':=by
 have HP:=ZZ h;obtain⟨A,ca,rfl,hac,ham⟩:=h.form;unfold maxLen at ham;obtain⟨K,X⟩:=v;simp only at hv ⊢;obtain⟨W,hW,HBW⟩:=ZaJ w K X;have HWE:=ZZ hW
 obtain⟨p,hp⟩: ∃p,p=w.heap.size:=⟨_,rfl⟩
 have HPE:=ZZ hp;have BV:=ZZ HBW.out.2;rw[← hp] at BV;have OW:=ZZ HBW.out.1;have HVW:=ZZ (Zof pl (K,X));have d0:W.cell? ⟨p,0,none⟩=some (.int .i64 K):=BV.out.cell 0;have d1:W.cell? ⟨p,1,none⟩=some (.int .i64 X):=BV.out.cell 1;by_cases hk2:K=2
 case neg=>
  have hbq:(K==2)=false:=by simpa using hk2
  have HT:=ZZ (show((Zbk pl (K,X):Nat):Int)=Zd3 K X from HVW.out.trans (by unfold tgt;rw[if_neg hk2]));have HD:=ZZ (Zdm K X W)
  obtain⟨q,hq⟩: ∃q,q=Zd3 K X:=⟨_,rfl⟩
  obtain⟨q2,hq2⟩: ∃q,q=ZlQ K X:=⟨_,rfl⟩
  rw[← hq] at HT HD;rw[← hq2] at HD;clear hW hp hq hq2 h hk2 hv
  go_enter Tryz.func22,Tryz.ntmps22
  go_upto_region 1 with fail
  rw[HWE.out, ← HPE.out]
  go_wp2_with fail
  go_at_call 58;refine HD.out.mono ?_;rintro e w2 ⟨rfl,o2⟩;have O2:=ZZ (OW.out.trans o2);clear o2 d0 d1;go_wp2;go_ret;exact⟨by rw[HT.out];rfl,O2.out⟩
 case pos=>
 subst hk2;obtain⟨b1,b2⟩:=hv rfl
 obtain⟨i,rfl⟩: ∃i:Nat,X=i:=⟨X.toNat,by omega⟩
 obtain⟨y,hy⟩: ∃y,pl[i]? =some y:=⟨_,Ya (by omega)⟩
 obtain⟨ba,oa,rfl, -,c0⟩:=Zcz HP.out (OW.out.below hB fun _ h=>h.elim) hy
 have HT:=ZZ (show((Zbk pl (2,(i:Int)):Nat):Int)=Zd3 2 y from HVW.out.trans (by
  unfold tgt;simp only[if_true];rw[Int.toNat_natCast,Yn,hy]
  rfl))
 have hil:(i:Int)<pl.length:=b2
 obtain⟨U,hU,oU,bU⟩: ∃U,W.setCell ⟨p,1,none⟩ (.int .i64 y)=U∧Only (isb p) W U∧Blk U p 59 #[.int .i64 2,.int .i64 y]:=⟨_,rfl,Zc _ _ _ _,by simpa using BV.out.put 1 (.int .i64 y)⟩
 have HU:=ZZ hU;have OU:=ZZ (OW.out.andThen oU fun i hi e=>by unfold isb at e;rw[← hp] at hi;omega);have BU:=ZZ bU;have fd1:=BV.out.free 1;have HD:=ZZ (Zdm 2 y U)
 obtain⟨q,hq⟩: ∃q,q=Zd3 2 y:=⟨_,rfl⟩
 obtain⟨q2,hq2⟩: ∃q,q=ZlQ 2 y:=⟨_,rfl⟩
 rw[← hq] at HT HD;rw[← hq2] at HD;clear hW hp hq hq2 h hv hU oU bU hy b1 b2
 go_enter Tryz.func22,Tryz.ntmps22
 go_upto_region 1 with fail
 rw[HWE.out, ← HPE.out]
 go_upto_region 3 with fail
 rw[HU.out];clear d0 d1 c0 fd1;have d0:U.cell? ⟨p,0,none⟩=some (.int .i64 2):=BU.out.cell 0;have d1:U.cell? ⟨p,1,none⟩=some (.int .i64 y):=BU.out.cell 1
 go_wp2_with fail
 go_at_call 58;refine HD.out.mono ?_;rintro e w2 ⟨rfl,o2⟩;have O2:=ZZ (OU.out.trans o2);clear o2 d0 d1;go_wp2;go_ret;exact⟨by rw[HT.out];rfl,O2.out⟩
end
end Go.Proofs.YtknoncenblehkaaGreatDoor
