/- What chapter 20 asks, said node by node: where the next node What chapter 20 asks, said step by step: so far there is roo What is asked of package lower, and of the document's own. The document's own answer for layer 20: a value's word; node The document's own answer for layer 20: nodes written at the Package lower: a value's word. -/
import Derived.Test.YtknoncenblehkaaGreatDoorF41
set_option maxRecDepth 100000
set_option maxHeartbeats 32000000
set_option linter.unusedSimpArgs false
set_option linter.unusedVariables false
namespace Go.Proofs.YtknoncenblehkaaGreatDoor
section
open Go.RowKit
theorem Zjd (c:Cf) (d:Nd): ∀(l:List Nd) (t b:Int),plL c t b (l++[d])=plL c t b l++[if ZU c d=true then t+sSm c l else b+sBg c l]
 |[],t,b=>by cases hd:ZU c d <;> simp[plL,sSm,sBg,hd]
 |x::l,t,b=>by
  have ih:=Zjd c d l
  cases hx:ZU c x <;> simp[plL,sSm,sBg,hx,ih,Int.add_assoc]
theorem ZiL (c:Cf) (d:Nd): ∀(l:List Nd) (b:Int),tbL c b (l++[d])=tbL c b l++(if ZU c d=true then[] else[(b+sBg c l,ndSz d)])
 |[],b=>by cases hd:ZU c d <;> simp[tbL,sBg,hd]
 |x::l,b=>by
  have ih:=ZiL c d l
  cases hx:ZU c x <;> simp[tbL,sBg,hx,ih,Int.add_assoc]
theorem ZeK {l:List Nd} {k:Nat} {d:Nd} (h:l[k]? =some d):l.take (k+1)=l.take k++[d]:=by rw[List.take_add_one,h];rfl
section
variable {c:Cf} {ds:List Nd} {k:Nat} {d:Nd}
theorem Zf1 (h:ds[k]? =some d) (hs:ZU c d=true) (t b:Int):sSm c (ds.take (k+1))=sSm c (ds.take k)+ndSz d∧sBg c (ds.take (k+1))=sBg c (ds.take k)∧plL c t b (ds.take (k+1))=plL c t b (ds.take k)++[t+sSm c (ds.take k)]∧tbL c b (ds.take (k+1))=tbL c b (ds.take k):=by
 rw[ZeK h,Zhr,ZhM,Zjd,ZiL];simp[sSm,sBg,hs]
theorem ZgL (h:ds[k]? =some d) (hs:ZU c d=false) (t b:Int):sSm c (ds.take (k+1))=sSm c (ds.take k)∧sBg c (ds.take (k+1))=sBg c (ds.take k)+ndSz d∧plL c t b (ds.take (k+1))=plL c t b (ds.take k)++[b+sBg c (ds.take k)]∧tbL c b (ds.take (k+1))=tbL c b (ds.take k)++[(b+sBg c (ds.take k),ndSz d)]:=by
 rw[ZeK h,Zhr,ZhM,Zjd,ZiL];simp[sSm,sBg,hs]
theorem Zpc (h:ZdZ ds) (k:Nat):ZdZ (ds.take k):=fun x hx=>h x (List.mem_of_mem_take hx)
theorem ZbR (h:ZdZ ds) (k:Nat):0≤sSm c (ds.take k)∧0≤sBg c (ds.take k)∧sSm c (ds.take k)≤sSm c ds∧sBg c (ds.take k)≤sBg c ds:=by
 have h1:=Zad (c:=c) (Zpc h k);have h2:=Zad (c:=c) (ds:=ds.drop k) fun x hx=>h x (List.mem_of_mem_drop hx);have h3:=Zhr c (ds.take k) (ds.drop k);have h4:=ZhM c (ds.take k) (ds.drop k);rw[List.take_append_drop] at h3 h4;omega
end
def loE (c:Cf) (sec:Bool) (g:Gr):Int:=
 if c.ok then(if ZA g=true then(if c.slots<(g.rt.length:Int) then 8 else if loT c sec+sSm c g.nd≤Zcq c sec∧loB c+sBg c g.nd≤ZL c then 0 else 9) else 4) else 1
section
variable {c:Cf} {sec:Bool} {g:Gr}
theorem Zdu:loE c sec g=0↔LoOk c sec g:=by
 unfold loE;constructor
 · intro h
   repeat' split at h
   all_goals first|cases h|skip
   rename_i h1 h2 h3 h4
   exact⟨h1,h2,by omega,h4.1,h4.2⟩
 · rintro⟨h1,h2,h3,h4,h5⟩
   rw[if_pos h1,if_pos h2,if_neg (by omega),if_pos ⟨h4,h5⟩]
theorem Zr1 (h: ¬c.ok):loE c sec g=1:=if_neg h
theorem Zpx (h:c.ok) (h2: ¬ZA g=true):loE c sec g=4:=by unfold loE;rw[if_pos h,if_neg h2]
theorem ZhU (h:c.ok) (h2:ZA g=true) (h3:c.slots<(g.rt.length:Int)):loE c sec g=8:=by unfold loE;rw[if_pos h,if_pos h2,if_pos h3]
theorem Zqt (h:c.ok) (h2:ZA g=true) (h3: ¬c.slots<(g.rt.length:Int)) (h4: ¬(loT c sec+sSm c g.nd≤Zcq c sec∧loB c+sBg c g.nd≤ZL c)):loE c sec g=9:=by unfold loE;rw[if_pos h,if_pos h2,if_neg h3,if_neg h4]
theorem Zqp (h:c.ok):frL (loB c) (ZL c)=if 0<c.large then[Ze c] else[]:=by
 have h':=h;unfold Cf.ok at h'
 rcases ZaL h with⟨e1,e2,e3⟩|⟨e1,e2,e3⟩
 · rw[if_pos (by omega)]
   have a2:(Ze c).1+(Ze c).2=ZL c:=rfl;have a1:(Ze c).1=loB c:=rfl;unfold frL;rw[if_neg (by omega),show ZL c - loB c=(Ze c).2 by omega, ← a1]
 · rw[if_neg (by omega)]
   unfold frL;rw[if_pos (by omega)]
def noS:St:=⟨⟨0,0,0,0⟩,false,[],0,[],[],[]⟩
def Ztc (c:Cf) (sec:Bool) (g:Gr):St:=if loE c sec g=0 then Zaq c sec g else noS
def Zs9 (c:Cf) (sec:Bool) (g:Gr):List Int:=if loE c sec g=0 then loPl c sec g else[]
theorem LoOk.bounds (h:LoOk c sec g):(loPl c sec g).length=g.nd.length∧(tbL c (loB c) g.nd).length≤g.nd.length∧(frL (loB c+sBg c g.nd) (ZL c)).length≤1:=by
 refine⟨ZbJ ..,?_,?_⟩
 · have key: ∀(l:List Nd) (b:Int),(tbL c b l).length≤l.length:=by
    intro l
    induction l with
    |nil=>intro b;exact Yj _
    |cons x l ih=>
     intro b
     cases hx:ZU c x
     · simp only[tbL,hx,Bool.false_eq_true,if_false,List.length_cons]
       have:=ih (b+ndSz x);omega
     · simp only[tbL,hx,if_true,List.length_cons]
       have:=ih b;omega
   exact key _ _
 · unfold frL
   split <;> simp
theorem ZtE (n x:Nat):wd (List.replicate n 0) x=0:=by
 unfold wd;rw[Yn,List.getElem?_replicate]
 split <;> rfl
theorem LoOk.row_words (h:LoOk c sec g) (hfit:GrFit g) {d:Nd} (hd:d∈g.nd): ∀z∈rowW (loPl c sec g) d,z<18446744073709551616:=fun z hz=>by
 unfold rowW at hz;rcases List.mem_cons.1 hz with rfl|hz
 · exact(Zq4 (Zmf (h.nd_ok hd))).2.2.2.2.2.2
 · rcases Yr.1 hz with hz|hz
   · obtain⟨v,hv,rfl⟩:=List.mem_map.1 hz
     exact(h.val ((ZV.1 (h.nd_ok hd)).2.2.2 v hv)).2.2.2
   · exact hfit.rs d hd z hz
theorem LoOk.words (h:LoOk c sec g) (hfit:GrFit g):ZaM (loW c sec g):=fun z hz=>by
 obtain⟨x,hx⟩:=List.getElem?_of_mem hz
 have e:wd (loW c sec g) x=z:=by unfold wd;rw[Yn,hx];rfl
 rw[← e];obtain⟨a1,a2⟩:=Zc9 x _ _ h.inW h.apart;show wd (Zby _ _) x<18446744073709551616;by_cases hq: ∃y∈rowsOf (loPl c sec g) g.nd,y.1≤x∧x<y.1+y.2.length
 · obtain⟨y,hy,k1,k2⟩:=hq
   rw[a1 y hy k1 k2];obtain⟨q,hq,rfl⟩:=List.mem_map.1 hy;have hm:q.2∈g.nd:=(List.of_mem_zip (a:=q.1) (b:=q.2) hq).2;refine h.row_words hfit hm _ ?_;simp only at k2 ⊢;unfold wd;rw[Yn,Ya (by omega)];exact List.getElem_mem _
 · rw[a2 fun y hy hh=>hq ⟨y,hy,hh⟩,ZtE]
   decide
theorem LoOk.st_ok (h:LoOk c sec g) (hfit:GrFit g) (hc:CFit c) (hn:g.nd.length≤1000):StOk (Zaq c sec g):=by
 obtain⟨b1,b2,b3⟩:=h.bounds;have hok:=h.ok;have hw:=ZcT h.ok;have hl:=h.wlen;have hf:=Zdt (sec:=sec) h.ok;have hs:=h.small;have hg:=h.big;have hp:=Zad (c:=c) h.szs;have hsl:=h.slot_len;have hlg:=ZaL h.ok;unfold Cf.ok at hok;obtain⟨r1, -, -⟩:=ZhC (c:=c) g.nd (loB c) h.szs;refine⟨hc,h.words hfit,?_,?_,?_,?_,?_,?_,?_,?_⟩
 · show I64 (loT c sec+sSm c g.nd)
   unfold I64;omega
 · intro x hx
   have:=r1 x hx
   exact⟨by unfold I64;omega,by unfold I64;omega⟩
 · intro x hx
   have hx':x∈frL (loB c+sBg c g.nd) (ZL c):=hx;unfold frL at hx'
   split at hx'
   · cases hx'
   · rw[Yt.1 hx']
     exact⟨by unfold I64;simp only;omega,by unfold I64;simp only;omega⟩
 · intro t ht
   rcases h.slot_is ht with⟨v,hv,e⟩|e
   · rw[e]
     exact⟨by simp only;omega,by simp only;omega,(h.val ((Zv.1 h.may).2 v hv)).2.2.2⟩
   · rw[e]
     exact⟨by decide,by decide,by decide⟩
 · show(loW c sec g).length≤98304
   omega
 · show(tbL c (loB c) g.nd).length≤1000
   omega
 · show(frL _ _).length≤1000
   omega
 · show(ZgU c sec g).length≤2000
   omega
end
end
section
open Go.RowKit
def ZB (c:Cf) (sec:Bool) (ds:List Nd) (k:Nat):Prop:=loT c sec+sSm c (ds.take k)≤Zcq c sec∧loB c+sBg c (ds.take k)≤ZL c
section
variable {c:Cf} {sec:Bool} {ds:List Nd} {k:Nat} {d:Nd}
theorem ZlJ (h:c.ok):ZB c sec ds 0:=by
 have h1:=Zdt (sec:=sec) h;have h2:=ZaL h;have h3:=h;unfold Cf.ok at h3;unfold ZB;simp only[List.take_zero,sSm,sBg];omega
theorem ZkX (h:ds[k]? =some d) (hs:ZU c d=true) (hr:ZB c sec ds k):ZB c sec ds (k+1)↔loT c sec+sSm c (ds.take k)+ndSz d≤Zcq c sec:=by
 obtain⟨n1,n2, -⟩:=Zf1 (c:=c) h hs 0 0;unfold ZB at hr ⊢;rw[n1,n2];omega
theorem Zqs (h:ds[k]? =some d) (hs:ZU c d=false) (hr:ZB c sec ds k):ZB c sec ds (k+1)↔loB c+sBg c (ds.take k)+ndSz d≤ZL c:=by
 obtain⟨n1,n2, -⟩:=ZgL (c:=c) h hs 0 0;unfold ZB at hr ⊢;rw[n1,n2];omega
theorem ZpA (hz:ZdZ ds) (k:Nat) (h:ZB c sec ds ds.length):ZB c sec ds k:=by
 have hl:=ZbR (c:=c) hz k;unfold ZB at h ⊢;rw[List.take_length] at h;omega
theorem Zjs (hc:c.ok) (hz:ZdZ ds) (hr:ZB c sec ds k) (hd:ds[k]? =some d):Sp.within (loT c sec+sSm c (ds.take k),ndSz d) (Zl c sec)↔loT c sec+sSm c (ds.take k)+ndSz d≤Zcq c sec:=by
 have hl:=ZbR (c:=c) hz k;have hf:=Zdt (sec:=sec) hc;have hsz:=hz d (Yo hd);have hb:=ZP hc sec;have hc':=hc;unfold Cf.ok at hc';unfold ZB at hr;have e1:loT c sec=(Zl c sec).1:=rfl;have e2:Zcq c sec=(Zl c sec).1+(Zl c sec).2:=rfl;unfold Sp.within Sp.has Sp.ok Zcr;simp only;omega
variable {g:Gr}
theorem Zg2 (h:c.ok) (h2:ZA g=true) (h3: ¬c.slots<(g.rt.length:Int)) (h4:ZB c sec g.nd g.nd.length):loE c sec g=0:=by
 unfold ZB at h4;rw[List.take_length] at h4;unfold loE;rw[if_pos h,if_pos h2,if_neg h3,if_pos h4]
theorem ZsL (h:c.ok) (h2:ZA g=true) (h3: ¬c.slots<(g.rt.length:Int)) (h4: ¬ZB c sec g.nd g.nd.length):loE c sec g=9:=by
 unfold ZB at h4;rw[List.take_length] at h4;exact Zqt h h2 h3 h4
theorem ZnC (h:ZA g=true):ZdZ g.nd:=fun d hd=>(Zfr ((Zv.1 h).1 d hd)).2
def loFr (c:Cf) (ds:List Nd) (k:Nat):List Sp:=frL (loB c+sBg c (ds.take k)) (ZL c)
theorem ZpZ:(loFr c ds k).length≤1:=by unfold loFr frL;split <;> simp
theorem Zcf (h:c.ok):0≤loB c∧loB c≤ZL c∧ZL c≤98304:=by
 have h2:=ZaL h;have h3:=h;unfold Cf.ok at h3;omega
theorem Zpn (h:c.ok) (hz:ZdZ ds) (hd:ds[k]? =some d) (hs:ZU c d=false) (hr:loB c+sBg c (ds.take k)+ndSz d≤ZL c):Zco (loFr c ds k) (ndSz d)=(loFr c ds (k+1),loB c+sBg c (ds.take k),0):=by
 obtain⟨n1,n2, -⟩:=ZgL (c:=c) hd hs 0 0;have hb:=Zcf h;have hl:=ZbR (c:=c) hz k;have hsz:=hz d (Yo hd);unfold loFr;rw[(Zj0 (by omega) hsz.1 (by unfold Zcr;omega) (by omega)).1 hr,n2,Int.add_assoc]
theorem ZrT (h:c.ok) (hz:ZdZ ds) (hd:ds[k]? =some d) (hb0:loB c+sBg c (ds.take k)≤ZL c) (hr: ¬loB c+sBg c (ds.take k)+ndSz d≤ZL c):Zco (loFr c ds k) (ndSz d)=(loFr c ds k,0,9):=by
 have hb:=Zcf h;have hl:=ZbR (c:=c) hz k;have hsz:=hz d (Yo hd);unfold loFr;rw[(Zj0 (by omega) hsz.1 (by unfold Zcr;omega) hb0).2 hr]
theorem Zsy (h:c.ok) (hz:ZdZ ds) (hb0:loB c+sBg c (ds.take k)≤ZL c):Zhk (loFr c ds k):=fun x hx=>by
 have hb:=Zcf h;have hl:=ZbR (c:=c) hz k;unfold loFr frL at hx
 split at hx
 · cases hx
 · rw[Yt.1 hx]
   unfold Fit;simp only;omega
theorem Zrn (c:Cf) (b:Int): ∀(l:List Nd),(tbL c b l).length≤l.length:=fun l=>by
 induction l generalizing b with
 |nil=>exact Yj _
 |cons x l ih=>
  cases hx:ZU c x
  · simp only[tbL,hx,Bool.false_eq_true,if_false,List.length_cons]
    have:=ih (b+ndSz x);omega
  · simp only[tbL,hx,if_true,List.length_cons]
    have:=ih b;omega
end
end
section
open Go.RowKit Go.Lib
structure In20 (w:World) (B:Nat) (c:Cf) (g:Gr) (vn vr:Value) (hs:List (Value×Value)):Prop where
 rd:RdG w B g vn vr hs
 size:B≤w.heap.size
 fit:GrFit g
 cfit:CFit c
 nodes:g.nd.length≤1000
 roots:g.rt.length≤1000
 par:Par w
def Zu6 (f:FuncId):Prop:= ∀(c:Cf) (sec:Bool) (g:Gr) (vn vr:Value) (hs:List (Value×Value)) (B:Nat) (w:World),In20 w B c g vn vr hs→
 Calls Tryz.prog f #[.agg #[.int .i64 c.semi,.int .i64 c.large,.int .i64 c.slots,.int .i64 c.limit],.bool sec,.agg #[vn,vr]] w fun e w'=> ∃s vw vt vf vs,s=Ztc c sec g∧e=.returned (.tuple #[.agg #[.int .i64 s.cf.semi,.int .i64 s.cf.large,.int .i64 s.cf.slots,.int .i64 s.cf.limit,.bool s.sec,vw,.int .i64 s.top,vt,vf,vs],.int .i64 (loE c sec g)])∧Rd w' w'.heap.size s vw vt vf vs∧Only nob w w'
def Zu7 (f:FuncId):Prop:= ∀(c:Cf) (sec:Bool) (g:Gr) (vn vr:Value) (hs:List (Value×Value)) (B:Nat) (w:World),In20 w B c g vn vr hs→
 Calls Tryz.prog f #[.agg #[.int .i64 c.semi,.int .i64 c.large,.int .i64 c.slots,.int .i64 c.limit],.bool sec,.agg #[vn,vr]] w fun e w'=> ∃v,e=.returned (.tuple #[v,.int .i64 (loE c sec g)])∧Sl w' w'.heap.size 1 v (Zs9 c sec g).length (i64s (Zs9 c sec g))∧Only nob w w'
def Zu0 (f:FuncId):Prop:= ∀(c:Cf) (g:Gr) (vn vr:Value) (hs:List (Value×Value)) (B:Nat) (w:World),In20 w B c g vn vr hs→
 Calls Tryz.prog f #[.agg #[.int .i64 c.semi,.int .i64 c.large,.int .i64 c.slots,.int .i64 c.limit],.agg #[vn,vr]] w fun e w'=>e=.returned (.bool (decide (loE c false g=0)))∧Only nob w w'
structure LoC:Prop where
 lower:Zu6 8
 places:Zu7 10
 fits:Zu0 14
theorem In20.keep {w w':World} {B:Nat} {c:Cf} {g:Gr} {vn vr:Value} {hs:List (Value×Value)} (h:In20 w B c g vn vr hs) (o:Only nob w w'):In20 w' B c g vn vr hs:=
 ⟨h.rd.only o h.size,Yi h.size o.size,h.fit,h.cfit,h.nodes,h.roots,h.par.old o⟩
theorem ZbH {c:Cf} {sec:Bool} {g:Gr} (h:loE c sec g=0):Ztc c sec g=Zaq c sec g∧Zs9 c sec g=loPl c sec g:=by unfold Ztc Zs9;rw[if_pos h,if_pos h];exact⟨rfl,rfl⟩
theorem Zg5 {c:Cf} {sec:Bool} {g:Gr} (h:loE c sec g≠0):Ztc c sec g=noS∧Zs9 c sec g=[]:=by unfold Ztc Zs9;rw[if_neg h,if_neg h];exact⟨rfl,rfl⟩
theorem ZsY (k x:Int):0≤Zfm k x:=by
 unfold Zfm
 split <;> omega
theorem ZrX (pl:List Int) (v:Sp):((ZbY pl v:Nat):Int)=Zfm v.1 (tgt pl v):=by
 have:=ZsY v.1 (tgt pl v)
 unfold ZbY;omega
theorem Zhy {l r:List Nat} {p m x:Nat} (hx:r[m]? =some x) (h:p+r.length≤l.length):(Zch l p (r.take m)).set (p+m) x=Zch l p (r.take (m+1)):=by
 have hm:=(Yk.1 hx).1
 have hl1:(r.take m).length=m:=by rw[List.length_take];omega
 have hl2:(r.take (m+1)).length=m+1:=by rw[List.length_take];omega
 refine Zmo ?_ fun y hy=>?_
 · rw[List.length_set,Za4 (by omega),Za4 (by omega)]
 · rw[Zdl (by omega)]
   have e: ∀(a:List Nat) (i z:Nat),i<a.length→wd (a.set i z) y=if y=i then z else wd a y:=fun a i z hi=>by
    unfold wd;rw[Yn,Yn,List.getElem?_set];by_cases hyi:y=i
    · rw[if_pos hyi.symm,if_pos hyi,if_pos hi];rfl
    · rw[if_neg (fun hh=>hyi hh.symm),if_neg hyi]
   rw[e _ _ _ (by rw[Za4 (by omega)];omega),Zdl (by omega),hl1,hl2]
   have g: ∀k j,j<k→wd (r.take k) j=wd r j:=fun k j hj=>by
    unfold wd;rw[Yn,Yn,List.getElem?_take,if_pos hj]
   by_cases h1:y=p+m
   · rw[if_pos h1,if_pos (by omega),g _ _ (by omega),h1,show p+m - p=m by omega]
     unfold wd;rw[Yn,hx];rfl
   · rw[if_neg h1]
     by_cases h2:p≤y∧y<p+m
     · rw[if_pos h2,if_pos (by omega),g _ _ (by omega),g _ _ (by omega)]
     · rw[if_neg h2,if_neg (by omega)]
theorem Zpk (l:List Nat) (p:Nat):Zch l p []=l:=by unfold Zch;simp
theorem ZfB (x:Nat×List Nat): ∀(ps:List (Nat×List Nat)) (l:List Nat),Zby (ps++[x]) l=Zch (Zby ps l) x.1 x.2
 |[],l=>rfl
 |y::ps,l=>ZfB x ps (Zch l y.1 y.2)
structure WrOk (n:Nat) (pl:List Int) (ds:List Nd):Prop where
 len:pl.length=ds.length
 fits: ∀(i:Nat) p d,pl[i]? =some p→ds[i]? =some d→0≤p∧p.toNat+(rowW pl d).length≤n
 may: ∀d∈ds,hmay d.kd d.fs.length d.rs.length 0=true
 lead: ∀d∈ds, ∀v∈d.fs,v.1=2→0≤v.2∧v.2<(pl.length:Int)
theorem ZkZ {pl:List Int} {ds:List Nd} (h:pl.length=ds.length):(rowsOf pl ds).length=ds.length:=by
 unfold rowsOf;rw[List.length_map,List.length_zip,h,Nat.min_self]
theorem ZnJ {pl:List Int} {ds:List Nd} {i:Nat} {p:Int} {d:Nd} (h1:pl[i]? =some p) (h2:ds[i]? =some d):(rowsOf pl ds)[i]? =some (p.toNat,rowW pl d):=by
 unfold rowsOf;have hz:(pl.zip ds)[i]? =some (p,d):=List.getElem?_zip_eq_some.2 ⟨h1,h2⟩;rw[List.getElem?_map,hz];rfl
theorem WrOk.inW {n:Nat} {pl:List Int} {ds:List Nd} (h:WrOk n pl ds):InW n (rowsOf pl ds):=fun x hx=>by
 obtain⟨i,p,d,h1,h2,rfl⟩:=(Zgf h.len).1 hx;exact(h.fits i p d h1 h2).2
theorem WrOk.wr_len {n:Nat} {pl:List Int} {ds:List Nd} (h:WrOk n pl ds) (k:Nat):(Zby ((rowsOf pl ds).take k) (List.replicate n 0)).length=n:=by
 rw[Zb7 _ _ fun x hx=>by rw[List.length_replicate];exact h.inW x (List.mem_of_mem_take hx),List.length_replicate]
theorem LoOk.wrOk {c:Cf} {sec:Bool} {g:Gr} (h:LoOk c sec g):WrOk (Zo c).toNat (loPl c sec g) g.nd:=by
 refine⟨ZbJ ..,fun i p d hp hd=>?_,fun d hd=>Zmf (h.nd_ok hd),fun d hd v hv h2=>?_⟩
 · obtain⟨z1,z2⟩:=ZdG (c:=c) (sec:=sec) hd
   obtain rfl:p=atP c sec g i:=by rw[hp] at z1;exact Yp z1
   have a:=h.at_in z2;have l:=h.len_of z2;have w:=ZcT h.ok;simp only at a l;exact⟨a.1,by omega⟩
 · obtain⟨i,h3,h4, -⟩:=(h.tgt ((ZV.1 (h.nd_ok hd)).2.2.2 v hv)).2.1 h2
   have:(loPl c sec g).length=g.nd.length:=ZbJ ..
   omega
theorem Zr8 {d:Nd} (h:hmay d.kd d.fs.length d.rs.length 0=true):hEW d.kd d.fs.length d.rs.length false 0=(hdW d:Nat):=by
 rw[Zn8 false h]
 have:=ZuY false h
 unfold hdW;omega
theorem Zq6 (pl:List Int) (v:Sp) (pv:Value) (B:Nat) (w:World) (h:Sl w B 1 pv pl.length (i64s pl)) (hB:B≤w.heap.size) (hv:v.1=2→0≤v.2∧v.2<(pl.length:Int)):
 Calls Tryz.prog 22 #[.agg #[.int .i64 v.1,.int .i64 v.2],pv] w fun e w'=>e=.returned (.int .u64 (ZbY pl v:Nat))∧Only nob w w':=by
 have HP:=ZZ h;obtain⟨A,ca,rfl,hac,ham⟩:=h.form;unfold maxLen at ham;obtain⟨K,X⟩:=v;simp only at hv ⊢;obtain⟨W,hW,HBW⟩:=Zbd w K X;have HWE:=ZZ hW
 obtain⟨p,hp⟩: ∃p,p=w.heap.size:=⟨_,rfl⟩
 have HPE:=ZZ hp;have BV:=ZZ HBW.out.2;rw[← hp] at BV;have OW:=ZZ HBW.out.1;have HVW:=ZZ (ZrX pl (K,X));have d0:W.cell? ⟨p,0,none⟩=some (.int .i64 K):=BV.out.cell 0;have d1:W.cell? ⟨p,1,none⟩=some (.int .i64 X):=BV.out.cell 1;by_cases hk2:K=2
 case neg=>
  have hbq:(K==2)=false:=by simpa using hk2
  have HT:=ZZ (show((ZbY pl (K,X):Nat):Int)=Zfm K X from HVW.out.trans (by unfold tgt;rw[if_neg hk2]));have HD:=ZZ (Zey K X W)
  obtain⟨q,hq⟩: ∃q,q=Zfm K X:=⟨_,rfl⟩
  obtain⟨q2,hq2⟩: ∃q,q=ZoS K X:=⟨_,rfl⟩
  rw[← hq] at HT HD;rw[← hq2] at HD;clear hW hp hq hq2 h hk2 hv
  go_enter Tryz.func22,Tryz.ntmps22
  go_upto_region 1 with fail
  rw[HWE.out, ← HPE.out]
  go_wp2_with fail
  go_at_call 58;refine HD.out.mono ?_;rintro e w2 ⟨rfl,o2⟩;have O2:=ZZ (OW.out.trans o2);clear o2 d0 d1;go_wp2;go_ret;exact⟨by rw[HT.out];rfl,O2.out⟩
 case pos=>
 subst hk2;obtain⟨b1,b2⟩:=hv rfl
 obtain⟨i,rfl⟩: ∃i:Nat,X=i:=⟨X.toNat,by omega⟩
 obtain⟨y,hy⟩: ∃y,pl[i]? =some y:=⟨_,Ya (by omega)⟩
 obtain⟨ba,oa,rfl, -,c0⟩:=ZaO HP.out (OW.out.below hB fun _ h=>h.elim) hy
 have HT:=ZZ (show((ZbY pl (2,(i:Int)):Nat):Int)=Zfm 2 y from HVW.out.trans (by
  unfold tgt;simp only[if_true];rw[Int.toNat_natCast,Yn,hy]
  rfl))
 have hil:(i:Int)<pl.length:=b2
 obtain⟨U,hU,oU,bU⟩: ∃U,W.setCell ⟨p,1,none⟩ (.int .i64 y)=U∧Only (isb p) W U∧Blk U p 59 #[.int .i64 2,.int .i64 y]:=⟨_,rfl,Zc _ _ _ _,by simpa using BV.out.put 1 (.int .i64 y)⟩
 have HU:=ZZ hU;have OU:=ZZ (OW.out.andThen oU fun i hi e=>by unfold isb at e;rw[← hp] at hi;omega);have BU:=ZZ bU;have fd1:=BV.out.free 1;have HD:=ZZ (Zey 2 y U)
 obtain⟨q,hq⟩: ∃q,q=Zfm 2 y:=⟨_,rfl⟩
 obtain⟨q2,hq2⟩: ∃q,q=ZoS 2 y:=⟨_,rfl⟩
 rw[← hq] at HT HD;rw[← hq2] at HD;clear hW hp hq hq2 h hv hU oU bU hy b1 b2
 go_enter Tryz.func22,Tryz.ntmps22
 go_upto_region 1 with fail
 rw[HWE.out, ← HPE.out]
 go_upto_region 3 with fail
 rw[HU.out];clear d0 d1 c0 fd1;have d0:U.cell? ⟨p,0,none⟩=some (.int .i64 2):=BU.out.cell 0;have d1:U.cell? ⟨p,1,none⟩=some (.int .i64 y):=BU.out.cell 1
 go_wp2_with fail
 go_at_call 58;refine HD.out.mono ?_;rintro e w2 ⟨rfl,o2⟩;have O2:=ZZ (OU.out.trans o2);clear o2 d0 d1;go_wp2;go_ret;exact⟨by rw[HT.out];rfl,O2.out⟩
end
end Go.Proofs.YtknoncenblehkaaGreatDoor
