/- What chapter 20 asks, said step by step: so far there is roo What is asked of package lower, and of the document's own. The document's own answer for layer 20: a value's word; node -/
import Derived.Test.YtknoncenblehkaaGreatDoorG36
import Derived.Test.YtknoncenblehkaaGreatDoorG26
set_option maxRecDepth 100000
set_option maxHeartbeats 32000000
set_option linter.unusedSimpArgs false
set_option linter.unusedVariables false
namespace Go.Proofs.YtknoncenblehkaaGreatDoor
section
open Go.RowKit
def Zw (c:Cf) (sec:Bool) (ds:List Nd) (k:Nat):Prop:=loT c sec+sSm c (ds.take k)≤ZaX c sec∧loB c+sBg c (ds.take k)≤ZD c
section
variable {c:Cf} {sec:Bool} {ds:List Nd} {k:Nat} {d:Nd}
theorem Zem (h:c.ok):Zw c sec ds 0:=by
 have h1:=Zby (sec:=sec) h;have h2:=Zay h;have h3:=h;unfold Cf.ok at h3;unfold Zw;simp only[List.take_zero,sSm,sBg];omega
theorem Zet (h:ds[k]? =some d) (hs:ZaD c d=true) (hr:Zw c sec ds k):Zw c sec ds (k+1)↔loT c sec+sSm c (ds.take k)+ndSz d≤ZaX c sec:=by
 obtain⟨n1,n2, -⟩:=ZcG (c:=c) h hs 0 0;unfold Zw at hr ⊢;rw[n1,n2];omega
theorem Zg0 (h:ds[k]? =some d) (hs:ZaD c d=false) (hr:Zw c sec ds k):Zw c sec ds (k+1)↔loB c+sBg c (ds.take k)+ndSz d≤ZD c:=by
 obtain⟨n1,n2, -⟩:=Zch (c:=c) h hs 0 0;unfold Zw at hr ⊢;rw[n1,n2];omega
theorem Ze2 (hz:ZcJ ds) (k:Nat) (h:Zw c sec ds ds.length):Zw c sec ds k:=by
 have hl:=Zas (c:=c) hz k;unfold Zw at h ⊢;rw[List.take_length] at h;omega
theorem Zgj (hc:c.ok) (hz:ZcJ ds) (hr:Zw c sec ds k) (hd:ds[k]? =some d):Sp.within (loT c sec+sSm c (ds.take k),ndSz d) (Zj c sec)↔loT c sec+sSm c (ds.take k)+ndSz d≤ZaX c sec:=by
 have hl:=Zas (c:=c) hz k;have hf:=Zby (sec:=sec) hc;have hsz:=hz d (Yn hd);have hb:=ZK hc sec;have hc':=hc;unfold Cf.ok at hc';unfold Zw at hr;have e1:loT c sec=(Zj c sec).1:=rfl;have e2:ZaX c sec=(Zj c sec).1+(Zj c sec).2:=rfl;unfold Sp.within Sp.has Sp.ok Za6;simp only;omega
variable {g:Gr}
theorem Zdf (h:c.ok) (h2:Zb6 g=true) (h3: ¬c.slots<(g.rt.length:Int)) (h4:Zw c sec g.nd g.nd.length):loE c sec g=0:=by
 unfold Zw at h4;rw[List.take_length] at h4;unfold loE;rw[if_pos h,if_pos h2,if_neg h3,if_pos h4]
theorem Zf0 (h:c.ok) (h2:Zb6 g=true) (h3: ¬c.slots<(g.rt.length:Int)) (h4: ¬Zw c sec g.nd g.nd.length):loE c sec g=9:=by
 unfold Zw at h4;rw[List.take_length] at h4;exact ZlT h h2 h3 h4
theorem Zht (h:Zb6 g=true):ZcJ g.nd:=fun d hd=>(Zed ((ZO.1 h).1 d hd)).2
theorem Zlt (sec sec':Bool):(loE c sec g=0)↔(loE c sec' g=0):=by
 have key: ∀s s':Bool,LoOk c s g→LoOk c s' g:=fun s s' h=>by
  refine⟨h.ok,h.may,h.slots,?_,h.big⟩;have h1:=h.small;have hk:=h.ok
  have e: ∀q:Bool,ZaX c q=loT c q+c.semi:=fun q=>by
   unfold ZaX loT Zj Zal;rw[if_pos hk,if_pos hk]
   cases q <;> rfl
  rw[e] at h1 ⊢;omega
 exact⟨fun h=>Zb4.2 (key _ _ (Zb4.1 h)),fun h=>Zb4.2 (key _ _ (Zb4.1 h))⟩
def loFr (c:Cf) (ds:List Nd) (k:Nat):List Sp:=frL (loB c+sBg c (ds.take k)) (ZD c)
theorem ZhQ:(loFr c ds k).length≤1:=by unfold loFr frL;split <;> simp
theorem Zai (h:c.ok):0≤loB c∧loB c≤ZD c∧ZD c≤98304:=by
 have h2:=Zay h;have h3:=h;unfold Cf.ok at h3;omega
theorem Zg5 (h:c.ok) (hz:ZcJ ds) (hd:ds[k]? =some d) (hs:ZaD c d=false) (hr:loB c+sBg c (ds.take k)+ndSz d≤ZD c):Zah (loFr c ds k) (ndSz d)=(loFr c ds (k+1),loB c+sBg c (ds.take k),0):=by
 obtain⟨n1,n2, -⟩:=Zch (c:=c) hd hs 0 0;have hb:=Zai h;have hl:=Zas (c:=c) hz k;have hsz:=hz d (Yn hd);unfold loFr;rw[(Zhp (by omega) hsz.1 (by unfold Za6;omega) (by omega)).1 hr,n2,Int.add_assoc]
theorem ZkS (h:c.ok) (hz:ZcJ ds) (hd:ds[k]? =some d) (hb0:loB c+sBg c (ds.take k)≤ZD c) (hr: ¬loB c+sBg c (ds.take k)+ndSz d≤ZD c):Zah (loFr c ds k) (ndSz d)=(loFr c ds k,0,9):=by
 have hb:=Zai h;have hl:=Zas (c:=c) hz k;have hsz:=hz d (Yn hd);unfold loFr;rw[(Zhp (by omega) hsz.1 (by unfold Za6;omega) hb0).2 hr]
theorem Zof (h:c.ok) (hz:ZcJ ds) (hb0:loB c+sBg c (ds.take k)≤ZD c):ZfO (loFr c ds k):=fun x hx=>by
 have hb:=Zai h;have hl:=Zas (c:=c) hz k;unfold loFr frL at hx
 split at hx
 · cases hx
 · rw[Ys.1 hx]
   unfold Fit;simp only;omega
theorem Zji (c:Cf) (b:Int): ∀(l:List Nd),(tbL c b l).length≤l.length:=fun l=>by
 induction l generalizing b with
 |nil=>exact Yi _
 |cons x l ih=>
  cases hx:ZaD c x
  · simp only[tbL,hx,Bool.false_eq_true,if_false,List.length_cons]
    have:=ih (b+ndSz x);omega
  · simp only[tbL,hx,if_true,List.length_cons]
    have:=ih b;omega
theorem ZnT (h:c.ok) (hz:ZcJ ds) (hd:ds[k]? =some d) (hs:ZaD c d=false) (hr:loB c+sBg c (ds.take k)+ndSz d≤ZD c):Zhg (tbL c (loB c) (ds.take k)) (loB c+sBg c (ds.take k),ndSz d)=(tbL c (loB c) (ds.take (k+1)),0):=by
 obtain⟨-, -, -,n4⟩:=Zch (c:=c) hd hs 0 (loB c);have hb:=Zai h;have hl:=Zas (c:=c) hz k;have hsz:=hz d (Yn hd);rw[n4];obtain⟨r1, -, -⟩:=ZeC (c:=c) (ds.take k) (loB c) (Zhm hz k);refine ZlZ ⟨by simp only;omega,hsz.1,by simp only;unfold Za6;omega,by simp only;unfold Za6;omega⟩ fun y hy=>?_
 have:=r1 y hy
 exact⟨⟨by omega,by omega,by unfold Za6;omega,by unfold Za6;omega⟩,by simp only;omega⟩
end
end
section
open Go.RowKit Go.Lib
structure In20 (w:World) (B:Nat) (c:Cf) (g:Gr) (vn vr:Value) (hs:List (Value×Value)):Prop where
 rd:RdG w B g vn vr hs
 size:B≤w.heap.size
 fit:GrFit g
 cfit:CFit c
 nodes:g.nd.length≤1000
 roots:g.rt.length≤1000
 par:Par w
def Zpu (f:FuncId):Prop:= ∀(c:Cf) (sec:Bool) (g:Gr) (vn vr:Value) (hs:List (Value×Value)) (B:Nat) (w:World),In20 w B c g vn vr hs→
 Calls Tryz.prog f #[.agg #[.int .i64 c.semi,.int .i64 c.large,.int .i64 c.slots,.int .i64 c.limit],.bool sec,.agg #[vn,vr]] w fun e w'=> ∃s vw vt vf vs,s=ZmW c sec g∧e=.returned (.tuple #[.agg #[.int .i64 s.cf.semi,.int .i64 s.cf.large,.int .i64 s.cf.slots,.int .i64 s.cf.limit,.bool s.sec,vw,.int .i64 s.top,vt,vf,vs],.int .i64 (loE c sec g)])∧Rd w' w'.heap.size s vw vt vf vs∧Only nob w w'
def ZpP (f:FuncId):Prop:= ∀(c:Cf) (sec:Bool) (g:Gr) (vn vr:Value) (hs:List (Value×Value)) (B:Nat) (w:World),In20 w B c g vn vr hs→
 Calls Tryz.prog f #[.agg #[.int .i64 c.semi,.int .i64 c.large,.int .i64 c.slots,.int .i64 c.limit],.bool sec,.agg #[vn,vr]] w fun e w'=> ∃v,e=.returned (.tuple #[v,.int .i64 (loE c sec g)])∧Sl w' w'.heap.size 1 v (Zja c sec g).length (i64s (Zja c sec g))∧Only nob w w'
def ZpU (f:FuncId):Prop:= ∀(c:Cf) (g:Gr) (vn vr:Value) (hs:List (Value×Value)) (B:Nat) (w:World),In20 w B c g vn vr hs→
 Calls Tryz.prog f #[.agg #[.int .i64 c.semi,.int .i64 c.large,.int .i64 c.slots,.int .i64 c.limit],.agg #[vn,vr]] w fun e w'=>e=.returned (.bool (decide (loE c false g=0)))∧Only nob w w'
def Zp2 (f:FuncId):Prop:= ∀(c:Cf) (sec:Bool) (g:Gr) (vn vr:Value) (hs:List (Value×Value)) (B:Nat) (w:World),In20 w B c g vn vr hs→
 Calls Tryz.prog f #[.agg #[.int .i64 c.semi,.int .i64 c.large,.int .i64 c.slots,.int .i64 c.limit],.bool sec,.agg #[vn,vr]] w fun e w'=> ∃s v vt vf,s=ZmW c sec g∧e=.returned (.tuple #[.agg #[v,.int .i64 s.top,vt,vf],.int .i64 (loE c sec g)])∧Sl w' w'.heap.size 1 v (Zja c sec g).length (i64s (Zja c sec g))∧Sl w' w'.heap.size 2 vt s.tb.length (spc s.tb)∧Sl w' w'.heap.size 2 vf s.fr.length (spc s.fr)∧Only nob w w'
structure LoC:Prop where
 lower:Zpu 8
 places:ZpP 10
 fits:ZpU 14
theorem In20.keep {w w':World} {B:Nat} {c:Cf} {g:Gr} {vn vr:Value} {hs:List (Value×Value)} (h:In20 w B c g vn vr hs) (o:Only nob w w'):In20 w' B c g vn vr hs:=
 ⟨h.rd.only o h.size,Yh h.size o.size,h.fit,h.cfit,h.nodes,h.roots,h.par.old o⟩
theorem ZaO {c:Cf} {sec:Bool} {g:Gr} (h:loE c sec g=0):ZmW c sec g=ZaK c sec g∧Zja c sec g=loPl c sec g:=by unfold ZmW Zja;rw[if_pos h,if_pos h];exact⟨rfl,rfl⟩
theorem ZcI {c:Cf} {sec:Bool} {g:Gr} (h:loE c sec g≠0):ZmW c sec g=noS∧Zja c sec g=[]:=by unfold ZmW Zja;rw[if_neg h,if_neg h];exact⟨rfl,rfl⟩
theorem Zoa (k x:Int):0≤ZcD k x:=by
 unfold ZcD
 split <;> omega
theorem Zks (pl:List Int) (v:Sp):((ZbK pl v:Nat):Int)=ZcD v.1 (tgt pl v):=by
 have:=Zoa v.1 (tgt pl v)
 unfold ZbK;omega
theorem Zki (pl:List Int) (v:Sp) (pv:Value) (B:Nat) (w:World) (h:Sl w B 1 pv pl.length (i64s pl)) (hB:B≤w.heap.size) (hv:v.1=2→0≤v.2∧v.2<(pl.length:Int)):
 Calls Tryz.prog 25 #[.agg #[.int .i64 v.1,.int .i64 v.2],pv] w fun e w'=>e=.returned (.int .u64 (ZbK pl v:Nat))∧Only nob w w':=by
 have HP:=ZZ h;obtain⟨A,ca,rfl,hac,ham⟩:=h.form;unfold maxLen at ham;obtain⟨K,X⟩:=v;simp only at hv ⊢;obtain⟨W,hW,HBW⟩:=ZbA w K X;have HWE:=ZZ hW
 obtain⟨p,hp⟩: ∃p,p=w.heap.size:=⟨_,rfl⟩
 have HPE:=ZZ hp;have BV:=ZZ HBW.out.2;rw[← hp] at BV;have OW:=ZZ HBW.out.1;have HVW:=ZZ (Zks pl (K,X));have d0:W.cell? ⟨p,0,none⟩=some (.int .i64 K):=BV.out.cell 0;have d1:W.cell? ⟨p,1,none⟩=some (.int .i64 X):=BV.out.cell 1;by_cases hk2:K=2
 case neg=>
  have hbq:(K==2)=false:=by simpa using hk2
  have HT:=ZZ (show((ZbK pl (K,X):Nat):Int)=ZcD K X from HVW.out.trans (by unfold tgt;rw[if_neg hk2]));have HD:=ZZ (ZeA K X W)
  obtain⟨q,hq⟩: ∃q,q=ZcD K X:=⟨_,rfl⟩
  obtain⟨q2,hq2⟩: ∃q,q=Zis K X:=⟨_,rfl⟩
  rw[← hq] at HT HD;rw[← hq2] at HD;clear hW hp hq hq2 h hk2 hv
  go_enter Tryz.func25,Tryz.ntmps25
  go_upto_region 1 with fail
  rw[HWE.out, ← HPE.out]
  go_wp2_with fail
  go_at_call 61;refine HD.out.mono ?_;rintro e w2 ⟨rfl,o2⟩;have O2:=ZZ (OW.out.trans o2);clear o2 d0 d1;go_wp2;go_ret;exact⟨by rw[HT.out];rfl,O2.out⟩
 case pos=>
 subst hk2;obtain⟨b1,b2⟩:=hv rfl
 obtain⟨i,rfl⟩: ∃i:Nat,X=i:=⟨X.toNat,by omega⟩
 obtain⟨y,hy⟩: ∃y,pl[i]? =some y:=⟨_,Ya (by omega)⟩
 obtain⟨ba,oa,rfl, -,c0⟩:=ZcP HP.out (OW.out.below hB fun _ h=>h.elim) hy
 have HT:=ZZ (show((ZbK pl (2,(i:Int)):Nat):Int)=ZcD 2 y from HVW.out.trans (by
  unfold tgt;simp only[if_true];rw[Int.toNat_natCast,Ym,hy]
  rfl))
 have hil:(i:Int)<pl.length:=b2
 obtain⟨U,hU,oU,bU⟩: ∃U,W.setCell ⟨p,1,none⟩ (.int .i64 y)=U∧Only (isb p) W U∧Blk U p 59 #[.int .i64 2,.int .i64 y]:=⟨_,rfl,Zc _ _ _ _,by simpa using BV.out.put 1 (.int .i64 y)⟩
 have HU:=ZZ hU;have OU:=ZZ (OW.out.andThen oU fun i hi e=>by unfold isb at e;rw[← hp] at hi;omega);have BU:=ZZ bU;have fd1:=BV.out.free 1;have HD:=ZZ (ZeA 2 y U)
 obtain⟨q,hq⟩: ∃q,q=ZcD 2 y:=⟨_,rfl⟩
 obtain⟨q2,hq2⟩: ∃q,q=Zis 2 y:=⟨_,rfl⟩
 rw[← hq] at HT HD;rw[← hq2] at HD;clear hW hp hq hq2 h hv hU oU bU hy b1 b2
 go_enter Tryz.func25,Tryz.ntmps25
 go_upto_region 1 with fail
 rw[HWE.out, ← HPE.out]
 go_upto_region 3 with fail
 rw[HU.out];clear d0 d1 c0 fd1;have d0:U.cell? ⟨p,0,none⟩=some (.int .i64 2):=BU.out.cell 0;have d1:U.cell? ⟨p,1,none⟩=some (.int .i64 y):=BU.out.cell 1
 go_wp2_with fail
 go_at_call 61;refine HD.out.mono ?_;rintro e w2 ⟨rfl,o2⟩;have O2:=ZZ (OU.out.trans o2);clear o2 d0 d1;go_wp2;go_ret;exact⟨by rw[HT.out];rfl,O2.out⟩
theorem Zbz {l r:List Nat} {p m x:Nat} (hx:r[m]? =some x) (h:p+r.length≤l.length):(ZaS l p (r.take m)).set (p+m) x=ZaS l p (r.take (m+1)):=by
 have hm:=(Yj.1 hx).1
 have hl1:(r.take m).length=m:=by rw[List.length_take];omega
 have hl2:(r.take (m+1)).length=m+1:=by rw[List.length_take];omega
 refine ZmC ?_ fun y hy=>?_
 · rw[List.length_set,ZaM (by omega),ZaM (by omega)]
 · rw[ZcE (by omega)]
   have e: ∀(a:List Nat) (i z:Nat),i<a.length→wd (a.set i z) y=if y=i then z else wd a y:=fun a i z hi=>by
    unfold wd;rw[Ym,Ym,List.getElem?_set];by_cases hyi:y=i
    · rw[if_pos hyi.symm,if_pos hyi,if_pos hi];rfl
    · rw[if_neg (fun hh=>hyi hh.symm),if_neg hyi]
   rw[e _ _ _ (by rw[ZaM (by omega)];omega),ZcE (by omega),hl1,hl2]
   have g: ∀k j,j<k→wd (r.take k) j=wd r j:=fun k j hj=>by
    unfold wd;rw[Ym,Ym,List.getElem?_take,if_pos hj]
   by_cases h1:y=p+m
   · rw[if_pos h1,if_pos (by omega),g _ _ (by omega),h1,show p+m - p=m by omega]
     unfold wd;rw[Ym,hx];rfl
   · rw[if_neg h1]
     by_cases h2:p≤y∧y<p+m
     · rw[if_pos h2,if_pos (by omega),g _ _ (by omega),g _ _ (by omega)]
     · rw[if_neg h2,if_neg (by omega)]
theorem ZhG (l:List Nat) (p:Nat):ZaS l p []=l:=by unfold ZaS;simp
theorem ZcF (x:Nat×List Nat): ∀(ps:List (Nat×List Nat)) (l:List Nat),Zav (ps++[x]) l=ZaS (Zav ps l) x.1 x.2
 |[],l=>rfl
 |y::ps,l=>ZcF x ps (ZaS l y.1 y.2)
theorem Zfr (n:Nat) (hn:n≤1000000) (w:World): ∃W,(Instr.makeSlice 30 (.int .i64 (n:Int)) (.int .i64 (n:Int))).run Tryz.prog w=.ok (.slice (some ⟨w.heap.size,0,none⟩) n n) W∧Only nob w W∧W.ownsRow w.heap.size 57 1 (.slice (some ⟨w.heap.size,0,none⟩) n n) n (u64s (List.replicate n 0)):=by
 obtain⟨i0,hi0,hz0,hz1,hz2⟩:=info_parts ZcC;obtain⟨W,h1,h2,h3⟩:=run_make_full (P:=Tryz.prog) w w.heap.size 30 57 i0 _ 1 Tryz.underlying30 hi0 hz0 hz1 .i64 .i64 n (by rw[hz2];omega) (by unfold maxLen;omega) (Yi _);refine⟨W,h1,⟨h3.os,h3.tape,h3.output,h3.size,fun k hk _=>h3.block k hk (by simp)⟩,?_⟩
 have e:(madeCells (Value.int .u64 0).cells (n * 1)).toList=u64s (List.replicate n 0):=by
  show(madeCells #[.int .u64 0] (n * 1)).toList=_;rw[toList_madeCells_one,Nat.mul_one];simp[u64s]
 rw[e] at h2;exact h2
end
end Go.Proofs.YtknoncenblehkaaGreatDoor
