/- Package lower: what is wrong with a config or a graph; the r -/
import Derived.Test.YtknoncenblehkaaGreatDoorG37
import Derived.Test.YtknoncenblehkaaGreatDoorG27
set_option maxRecDepth 100000
set_option maxHeartbeats 32000000
set_option linter.unusedSimpArgs false
set_option linter.unusedVariables false
namespace Go.Proofs.YtknoncenblehkaaGreatDoor
open Go.RowKit Go.Lib
def ZiV (c:Cf) (g:Gr):Int:=if c.ok then(if Zb6 g=true then(if c.slots<(g.rt.length:Int) then 8 else 0) else 4) else 1
theorem Zhb {c:Cf} {g:Gr} (h: ¬c.ok):ZiV c g=1:=if_neg h
theorem ZfS {c:Cf} {g:Gr} (h:c.ok) (h2: ¬Zb6 g=true):ZiV c g=4:=by unfold ZiV;rw[if_pos h,if_neg h2]
theorem Zen {c:Cf} {g:Gr} (h:c.ok) (h2:Zb6 g=true) (h3:c.slots<(g.rt.length:Int)):ZiV c g=8:=by unfold ZiV;rw[if_pos h,if_pos h2,if_pos h3]
theorem ZhO {c:Cf} {g:Gr} (h:c.ok) (h2:Zb6 g=true) (h3: ¬c.slots<(g.rt.length:Int)):ZiV c g=0:=by unfold ZiV;rw[if_pos h,if_pos h2,if_neg h3]
theorem Zkj {c:Cf} {g:Gr} (h:ZiV c g=0):c.ok∧Zb6 g=true∧ ¬c.slots<(g.rt.length:Int):=by
 unfold ZiV at h
 repeat' split at h
 all_goals first|cases h|skip
 rename_i h1 h2 h3
 exact⟨h1,h2,h3⟩
theorem Zm6 {c:Cf} {sec:Bool} {g:Gr} (h:ZiV c g≠0):loE c sec g=ZiV c g:=by
 by_cases h1:c.ok
 · by_cases h2:Zb6 g=true
   · by_cases h3:c.slots<(g.rt.length:Int)
     · rw[ZdI h1 h2 h3,Zen h1 h2 h3]
     · exact absurd (ZhO h1 h2 h3) h
   · rw[Zhf h1 h2,ZfS h1 h2]
 · rw[Zk1 h1,Zhb h1]
theorem Zdh (w:World) (c:Cf) (vn vr:Value): ∃W,(w.alloc (.cells #[.int .i64 c.semi,.int .i64 c.large,.int .i64 c.slots,.int .i64 c.limit] 23)).alloc (.cells #[vn,vr] 27)=W∧Hid (Only nob w W∧CBox W w.heap.size c∧Blk W (w.heap.size+1) 27 #[vn,vr]):=by
 refine⟨_,rfl,ZZ ⟨((Only.refl nob w).alloc _).alloc _,(CBox.new w c).keep ((Only.refl nob _).alloc _),?_⟩⟩;have h:=Blk.new (w.alloc (.cells #[.int .i64 c.semi,.int .i64 c.large,.int .i64 c.slots,.int .i64 c.limit] 23)) 27 #[vn,vr];simpa using h
theorem ZnI (c:Cf) (g:Gr) (vn vr:Value) (hs:List (Value×Value)) (B:Nat) (w:World) (h:In20 w B c g vn vr hs):
 Calls Tryz.prog 48 #[.agg #[.int .i64 c.semi,.int .i64 c.large,.int .i64 c.slots,.int .i64 c.limit],.agg #[vn,vr]] w fun e w'=>e=.returned (.int .i64 (ZiV c g))∧Only nob w w':=by
 obtain⟨A,cn,rfl,hac,hcm⟩:=h.rd.nodes.form;obtain⟨Ar,cr,rfl,hacr,hcmr⟩:=h.rd.roots.form;unfold maxLen at hcm hcmr;obtain⟨W,hW,HB⟩:=Zdh w c (.slice A g.nd.length cn) (.slice Ar g.rt.length cr);have HW:=ZZ hW
 obtain⟨p,hp⟩: ∃p,p=w.heap.size:=⟨_,rfl⟩
 have HP:=ZZ hp;rw[← hp] at HB;have HI:=ZZ h;have HCK:=ZZ (Zbh c W h.cfit);clear hW hp h;obtain⟨c0,c1,c2,c3⟩:=HB.out.2.1
 go_enter Tryz.func48,Tryz.ntmps48
 go_upto_region 1 with fail
 rw[HW.out, ← HP.out];by_cases hok:c.ok
 case neg=>
  rw[Yk hok] at HCK;have HE:=ZZ (Zhb (g:=g) hok);clear hok
  go_wp2_with fail
  go_at_call 52;refine HCK.out.mono ?_;rintro e w1 ⟨rfl,o⟩;have O1:=ZZ (HB.out.1.trans o);clear o c0 c1 c2 c3;go_wp2;go_ret;exact⟨by rw[HE.out];rfl,O1.out⟩
 case pos=>
 rw[Yl hok] at HCK;have HOK:=ZZ hok;clear hok
 go_wp2_with fail
 go_at_call 52;refine HCK.out.mono ?_;rintro e w1 ⟨rfl,o⟩;have O1:=ZZ (HB.out.1.trans o);have X1:=ZZ (HB.out.2.1.keep o);have G1:=ZZ (HB.out.2.2.keep o id);have HRT:=ZZ (Zf1 g _ _ hs B w1 (HI.out.rd.only O1.out HI.out.size) (Yh HI.out.size O1.out.size) HI.out.fit)
 obtain⟨q,hq⟩: ∃q,q=Zb6 g:=⟨_,rfl⟩
 rw[← hq] at HRT;have HQ:=ZZ hq;clear o c0 c1 c2 c3 hq;have g0:w1.cell? ⟨p+1,0,none⟩=some (.slice A g.nd.length cn):=G1.out.cell 0;have g1:w1.cell? ⟨p+1,1,none⟩=some (.slice Ar g.rt.length cr):=G1.out.cell 1
 cases q
 case false=>
  have HE:=ZZ (ZfS HOK.out (by rw[← HQ.out];decide))
  go_wp2_with fail
  go_at_call 78;refine HRT.out.mono ?_;rintro e w2 ⟨rfl,o⟩;have O2:=ZZ (O1.out.trans o);clear o g0 g1;go_wp2;go_ret;exact⟨by rw[HE.out];rfl,O2.out⟩
 case true=>
 go_wp2_with fail
 go_at_call 78;refine HRT.out.mono ?_;rintro e w2 ⟨rfl,o⟩;have O2:=ZZ (O1.out.trans o);have c2:=(X1.out.keep o).c2;have h1:=o.keeps g1;clear o g0 g1;by_cases hsl:c.slots<(g.rt.length:Int)
 case pos=>
  have HE:=ZZ (Zen HOK.out HQ.out.symm hsl);go_wp2;go_ret;exact⟨by rw[HE.out];rfl,O2.out⟩
 case neg=>
  have HE:=ZZ (ZhO HOK.out HQ.out.symm hsl);go_wp2;go_ret;exact⟨by rw[HE.out];rfl,O2.out⟩
def RmF (rb:Nat) (tv:Value):Nat→Prop:=fun i=>i=rb∨tv.ownBlock=some i
structure Rm (w:World) (rb:Nat) (c:Cf) (sec:Bool) (ds:List Nd) (k:Nat) (tv fv:Value):Prop where
 blk:Blk w rb 65 #[.int .i64 c.semi,.int .i64 c.large,.int .i64 c.slots,.int .i64 c.limit,.int .i64 (Zj c sec).1,.int .i64 (Zj c sec).2,.int .i64 (loT c sec+sSm c (ds.take k)),tv,fv]
 tab:w.ownsRow rb 61 2 tv (tbL c (loB c) (ds.take k)).length (spc (tbL c (loB c) (ds.take k)))
 free:Sl w rb 2 fv (loFr c ds k).length (spc (loFr c ds k))∨(w.ownsRow 0 61 2 fv (loFr c ds k).length (spc (loFr c ds k))∧ ∀q,fv.ownBlock=some q→tv.ownBlock≠some q)
section
variable {w w':World} {rb:Nat} {c:Cf} {sec:Bool} {ds:List Nd} {k:Nat} {tv fv:Value} {d:Nd}
theorem Zd {w:World} {rb b n s:Nat} {E t:TypeId} {v:Value} {xs:List Value} {cs:Array Value} (h:w.ownsRow b E s v n xs) (hb:Blk w rb t cs) (hne:E≠t): ∀q,v.ownBlock=some q→q≠rb:=by
 intro q e e2
 rcases h.2 with⟨h0,_⟩|⟨g,cap,cur,h1,_,hg,_⟩
 · rw[h0] at e;cases e
 · rw[h1] at e
   have e1:g=q:=by simpa[Value.ownBlock] using e
   exact Blk.ne (show Blk w g E cur from hg) hb hne (e1.trans e2)
theorem Rm.size (h:Rm w rb c sec ds k tv fv):rb≤w.heap.size:=Nat.le_of_lt h.blk.lt
theorem Rm.freeSl (h:Rm w rb c sec ds k tv fv):Sl w w.heap.size 2 fv (loFr c ds k).length (spc (loFr c ds k)):=h.free.elim (fun h1=>h1.more h.size) fun h1=>Sl.of_own h1.1 h1.1.1
theorem Rm.keepF {F:Nat→Prop} (h:Rm w rb c sec ds k tv fv) (o:Only F w w') (h1: ∀i,F i→rb≤i) (h2: ¬F rb) (h3: ∀(b n:Nat) (v:Value) (xs:List Value),w.ownsRow b 61 2 v n xs→ ∀q,v.ownBlock=some q→ ¬F q):Rm w' rb c sec ds k tv fv:=
 ⟨h.blk.keep o h2,Zb h.tab o (h3 _ _ _ _ h.tab),h.free.elim (fun e=>.inl (e.below (o.below h.size h1))) fun e=>.inr ⟨Zb e.1 o (h3 _ _ _ _ e.1),e.2⟩⟩
theorem Rm.keep (h:Rm w rb c sec ds k tv fv) (o:Only nob w w'):Rm w' rb c sec ds k tv fv:=h.keepF o (fun _ e=>e.elim) id fun _ _ _ _ _ _ _=>id
def Zkz (rb:Nat) (c:Cf) (sec:Bool) (ds:List Nd) (k:Nat) (tv:Value) (w:World) (e:Ending) (w':World):Prop:=
 (Zw c sec ds (k+1)→ ∃z tv' fv',e=.returned (.tuple #[.int .i64 z,.int .i64 0])∧plL c (loT c sec) (loB c) (ds.take (k+1))=plL c (loT c sec) (loB c) (ds.take k)++[z]∧Rm w' rb c sec ds (k+1) tv' fv')∧
 (¬Zw c sec ds (k+1)→e=.returned (.tuple #[.int .i64 0,.int .i64 9]))∧Only (RmF rb tv) w w'
theorem ZgD (hok:c.ok) (hz:ZcJ ds) (hd:ds[k]? =some d) (hs:ZaD c d=true) (hr:Zw c sec ds k) (H:Rm w rb c sec ds k tv fv):
 Calls Tryz.prog 81 #[.pointer (some ⟨rb,0,none⟩),.int .i64 (ndSz d)] w (Zkz rb c sec ds k tv w):=by
 have hl:=Zas (c:=c) hz k;have hf:=Zby (sec:=sec) hok;have hsz:=hz d (Yn hd);have hb:=ZK hok sec;have hok':=hok;unfold Cf.ok at hok';have hr':=hr;unfold Zw at hr'
 have hts0:0≤loT c sec+sSm c (ds.take k)∧loT c sec+sSm c (ds.take k)≤65536:=by
  clear hb hsz;obtain⟨l1,l2,l3,l4⟩:=hl;obtain⟨f1,f2,f3⟩:=hf;obtain⟨k1,k2⟩:=hok';obtain⟨r1,r2⟩:=hr';clear l2 l4 r2;omega
 obtain⟨n1,n2,n3,n4⟩:=ZcG (c:=c) hd hs (loT c sec) (loB c);have HN:=ZZ (And.intro n1 (And.intro n2 (And.intro n3 n4)));have hwi:=Zgj (sec:=sec) hok hz hr hd;have hri:=Zet (sec:=sec) hd hs hr;have HWI:=ZZ (ZhT (loT c sec+sSm c (ds.take k),ndSz d) (Zj c sec) (by unfold Fit;simp only;have:=hts0.2;omega) (by unfold Fit;have:=hb.2.2.2.1;omega));have HH:=ZZ H
 obtain⟨t,ht⟩: ∃t,t=loT c sec+sSm c (ds.take k):=⟨_,rfl⟩
 obtain⟨n,hn⟩: ∃n,n=ndSz d:=⟨_,rfl⟩
 obtain⟨x,hx⟩: ∃x,x=(Zj c sec).1:=⟨_,rfl⟩
 obtain⟨y,hy⟩: ∃x,x=(Zj c sec).2:=⟨_,rfl⟩
 have HT:=ZZ ht;have HNN:=ZZ hn;have BR:=ZZ H.blk;rw[← ht, ← hx, ← hy] at BR;rw[← ht, ← hn] at hwi hri;rw[← ht, ← hn, ← hx, ← hy] at HWI;rw[← hn] at hsz;rw[← ht] at hts0;have hts:=hts0;clear hts0;clear n1 n2 n3 n4 ht H;rw[← hn];clear hn;have d0:w.cell? ⟨rb,4,none⟩=some (.int .i64 x):=BR.out.cell 4;have d1:w.cell? ⟨rb,5,none⟩=some (.int .i64 y):=BR.out.cell 5;have d2:w.cell? ⟨rb,6,none⟩=some (.int .i64 t):=BR.out.cell 6;by_cases hq:t+n≤ZaX c sec
 case neg=>
  have HNO:=ZZ (fun h=>hq (hri.1 h));rw[Yk (fun h=>hq (hwi.1 h))] at HWI;clear hwi hri hq hx hy
  go_enter Tryz.func81,Tryz.ntmps81
  go_wp2_with fail
  go_at_call 125;refine(HWI.out w).mono ?_;rintro e w1 ⟨rfl,o⟩;have O1:=ZZ o;clear o d0 d1 d2;go_wp2;go_ret2;exact⟨fun h=>absurd h HNO.out,fun _=>rfl,O1.out.mono fun _ _ h=>h.elim⟩
 case pos=>
  have HY:=ZZ (hri.2 hq);rw[Yl (hwi.2 hq)] at HWI;have HXY:=ZZ (And.intro hx hy);clear hwi hri hx hy
  have hw1:IntKind.i64.wrap (t+n)=t+n:=by rw[IntKind.wrap_i64];omega
  go_enter Tryz.func81,Tryz.ntmps81
  go_wp2_with fail
  go_at_call 125;refine(HWI.out w).mono ?_;rintro e w1 ⟨rfl,o⟩;have O1:=ZZ o;have B1:=ZZ (BR.out.keep o id);have H1:=ZZ (HH.out.keep o);have e2:w1.cell? ⟨rb,6,none⟩=some (.int .i64 t):=B1.out.cell 6;have f2:=B1.out.free 6;clear o d0 d1 d2
  go_wp2_with fail
  go_ret2
  obtain⟨W2,hW2,o2,B2⟩: ∃W2,w1.setCell ⟨rb,6,none⟩ (.int .i64 (t+n))=W2∧Only (isb rb) w1 W2∧Blk W2 rb 65 #[.int .i64 c.semi,.int .i64 c.large,.int .i64 c.slots,.int .i64 c.limit,.int .i64 x,.int .i64 y,.int .i64 (t+n),tv,fv]:=⟨_,rfl,Zc _ _ _ _,by simpa using B1.out.put 6 (.int .i64 (t+n))⟩
  rw[hW2]
  have hfr:loFr c ds (k+1)=loFr c ds k:=by unfold loFr;rw[HN.out.2.1]
  refine⟨fun _=>⟨t,tv,fv,rfl,by rw[HN.out.2.2.1, ← HT.out],?_,?_,?_⟩,fun h=>absurd HY.out h,(O1.out.mono fun _ _ h=>h.elim).trans (o2.mono fun i _ h=>.inl h)⟩
  · rw[HN.out.1, ← HXY.out.1, ← HXY.out.2, ← Int.add_assoc, ← HT.out, ← HNN.out]
    exact B2
  · rw[HN.out.2.2.2]
    exact Zb H1.out.tab o2 fun q hq=>Zd H1.out.tab B1.out (by decide) q hq
  · rw[hfr]
    exact H1.out.free.elim (fun e=>.inl (e.below (o2.below H1.out.size fun i h=>Nat.le_of_eq h.symm))) fun e=>.inr ⟨Zb e.1 o2 fun q hq=>Zd e.1 B1.out (by decide) q hq,e.2⟩
theorem ZgU (hok:c.ok) (hz:ZcJ ds) (hlen:ds.length≤1000) (hd:ds[k]? =some d) (hs:ZaD c d=false) (hr:Zw c sec ds k) (H:Rm w rb c sec ds k tv fv):
 Calls Tryz.prog 82 #[.pointer (some ⟨rb,0,none⟩),.int .i64 (ndSz d)] w (Zkz rb c sec ds k tv w):=by
 obtain⟨i0,hi0,hz0,hz1,hz2⟩:=info_parts Zae;have hl:=Zas (c:=c) hz k;have hsz:=hz d (Yn hd);have hb:=Zai hok;obtain⟨n1,n2,n3,n4⟩:=Zch (c:=c) hd hs (loT c sec) (loB c);have hri:=Zg0 (sec:=sec) hd hs hr;have htl:(tbL c (loB c) (ds.take k)).length≤1000:=Yh (Zji c _ _) (by rw[List.length_take];omega);have HTK:=Zm1 fv (loFr c ds k) (ndSz d) w.heap.size w H.freeSl (Yi _) (by have:=ZhQ (c:=c) (ds:=ds) (k:=k);omega) (Zof hok hz hr.2) (by omega) (by omega);have hrr:=hr;unfold Zw at hrr
 obtain⟨n,hn⟩: ∃n,n=ndSz d:=⟨_,rfl⟩
 obtain⟨z,hzz⟩: ∃z,z=loB c+sBg c (ds.take k):=⟨_,rfl⟩
 obtain⟨L,hL⟩: ∃L,L=tbL c (loB c) (ds.take k):=⟨_,rfl⟩
 obtain⟨FR,hFR⟩: ∃L,L=loFr c ds k:=⟨_,rfl⟩
 have BR:=ZZ H.blk;have TB:=ZZ H.tab;rw[← hL] at TB;obtain⟨Av,cv,hav,hac,ham⟩:=Zl TB.out;obtain⟨Af,cf,haf,hfc,hfm⟩:=H.freeSl.form;rw[← hFR] at haf;have HH:=ZZ H;subst hav haf
 obtain⟨N,hN⟩: ∃N,N=L.length:=⟨_,rfl⟩
 have d0:w.cell? ⟨rb,8,none⟩=some (.slice Af FR.length cf):=BR.out.cell 8;by_cases hq:z+n≤ZD c
 case neg=>
  have HNO:=ZZ (show ¬Zw c sec ds (k+1) from fun h=>hq (by rw[hn,hzz];exact hri.1 h));rw[ZkS hok hz hd hrr.2 (by rw[← hn, ← hzz];exact hq), ← hFR, ← hn] at HTK;have HTK:=ZZ HTK;clear hri hq n1 n2 n3 n4;rw[← hn];clear hn hzz hL hFR
  go_enter Tryz.func82,Tryz.ntmps82
  go_wp2_with fail
  go_at_call 126;refine HTK.out.mono ?_;rintro e w1 ⟨v',rfl,hown,o⟩;have O1:=ZZ o;obtain⟨A',c',rfl, -, -⟩:=Zl hown;clear o d0 hown;go_wp2;go_ret2;exact⟨fun h=>absurd h HNO.out,fun _=>rfl,O1.out.mono fun _ _ h=>h.elim⟩
 case pos=>
  have HY:=ZZ (hri.2 (by rw[← hn, ← hzz];exact hq));rw[Zg5 hok hz hd hs (by rw[← hn, ← hzz];exact hq), ← hn, ← hzz] at HTK
  obtain⟨FR',hFR'⟩: ∃L,L=loFr c ds (k+1):=⟨_,rfl⟩
  rw[← hFR'] at HTK;have HTK:=ZZ HTK;have HLL:=ZZ (show tbL c (loB c) (ds.take (k+1))=L++[(z,n)] by rw[n4,hL,hzz,hn]);have HPL:=ZZ (show plL c (loT c sec) (loB c) (ds.take (k+1))=plL c (loT c sec) (loB c) (ds.take k)++[z] by rw[n3,hzz]);have HSM:=ZZ n1;have HFR':=ZZ hFR';have HN:=ZZ hN;rw[← hL] at htl
  have hNl:N≤1000:=by omega
  rw[← hn, ← hN];rw[← hN] at TB BR;rw[← hN] at HH
  have hfar: ∀q,Av.map (·.block)=some q→q<w.heap.size:=fun q e=>by
   have:=(Zr TB.out (k:=q) (by cases Av with
    |none=>cases e
    |some a=>simpa[Value.ownBlock] using e)).2
   exact this
  clear hri hq n1 n2 n3 n4 hn hzz hL hFR hFR' hN hl hrr
  go_enter Tryz.func82,Tryz.ntmps82
  go_wp2_with fail
  go_at_call 126;refine HTK.out.mono ?_;rintro e w1 ⟨v',rfl,hown,o⟩;have O1:=ZZ o;have B1:=ZZ (BR.out.keep o id);have T1:=ZZ (Zb TB.out o fun _ _=>id);have W1:=ZZ hown;obtain⟨A',c',rfl, -, -⟩:=Zl hown;have f8:=B1.out.free 8;have e8:w1.cell? ⟨rb,8,none⟩=some (.slice Af FR.length cf):=B1.out.cell 8
  obtain⟨W2,hW2,o2,B2⟩: ∃W2,w1.setCell ⟨rb,8,none⟩ (.slice A' FR'.length c')=W2∧Only (isb rb) w1 W2∧Blk W2 rb 65 #[.int .i64 c.semi,.int .i64 c.large,.int .i64 c.slots,.int .i64 c.limit,.int .i64 (Zj c sec).1,.int .i64 (Zj c sec).2,.int .i64 (loT c sec+sSm c (ds.take k)),.slice Av N cv,.slice A' FR'.length c']:=⟨_,rfl,Zc _ _ _ _,by simpa using B1.out.put 8 (.slice A' FR'.length c')⟩
  have HW2:=ZZ hW2;have B2:=ZZ B2;have T2:=ZZ (Zb T1.out o2 (Zd T1.out B1.out (by decide)));have W2':=ZZ (Zb W1.out o2 (Zd W1.out B1.out (by decide)));have O2:=ZZ o2;have hz2':w.heap.size≤W2.heap.size:=Yh o.size o2.size;have e7:W2.cell? ⟨rb,7,none⟩=some (.slice Av N cv):=B2.out.cell 7;have HQ3:=ZZ (Blk.new W2 61 #[.int .i64 z,.int .i64 n]);clear o d0 hown hW2 o2
  go_upto_region 5 with fail
  rw[HW2.out];clear f8 e8
  go_wp2_with (with_reducible refine Zf (o:=⟨some 35,_,_,_,_,_⟩) _ rfl (.tmp 30) (.tmp 34) _ rfl rb 61 i0 _ 2 16 Tryz.underlying31 hi0 hz0 hz1 hz2 rfl (by decide) (.slice Av N cv) N (spc L) rfl ?c7 (W2.heap.size+1) (.slice (some ⟨W2.heap.size,0,none⟩) 1 1) 1 (spc [(z,n)]) rfl ?c8 (ZY _) ?c9 ?c10 ?c11 ?c12)
  case c7=>exact Zb T2.out ((Only.refl nob W2).alloc _) fun _ _ h=>h
  case c8=>exact(Sl.of_blk (size:=2) (n:=1) (c:=1) HQ3.out rfl (Yi _) (by decide)).more (by simp)
  case c9=>unfold maxLen;omega
  case c10=>omega
  case c11=>have:=B2.out.lt;simp;omega
  case c12=>
   intro v2 w4 H2 o4 hbk;have hn2:Only nob W2 (W2.alloc (.cells #[.int .i64 z,.int .i64 n] 61)):=(Only.refl nob W2).alloc _;have O4:=ZZ o4;have T4:=ZZ (show w4.ownsRow rb 61 2 v2 (N+1) (spc (L++[(z,n)])) by rw[Z9];exact H2.out);have hq1: ∀q,(Value.slice A' FR'.length c').ownBlock=some q→w.heap.size≤q∧q<W2.heap.size:=fun q e=>Zr W2'.out e;have hq2: ∀q,(Value.slice Av N cv).ownBlock=some q→q<w.heap.size:=fun q e=>(Zr TB.out e).2;have B4:=ZZ ((B2.out.keep hn2 id).keep o4 fun e=>Zd (Zb T2.out hn2 fun _ _=>id) (B2.out.keep hn2 id) (by decide) _ e rfl)
   have F4:=ZZ (Zb (Zb W2'.out hn2 fun _ _=>id) o4 fun q h1 h2=>by
    have:=hq1 q h1
    have:=hq2 q h2
    omega)
   have HBK:=ZZ (show ∀q,(Value.slice A' FR'.length c').ownBlock=some q→v2.ownBlock≠some q from fun q h1 h2=>by
    have h3:=hq1 q h1;rcases hbk with h|h
    · have:=hq2 q (h▸h2)
      omega
    · rw[h] at h2
      have:=Yo h2
      try simp at this
      omega)
   obtain⟨A2,c2',rfl,hk3,hk4⟩:=Zl T4.out;have e9:=B4.out.free 7;have e10:w4.cell? ⟨rb,7,none⟩=some (.slice Av N cv):=B4.out.cell 7;clear H2 o4 hbk hn2 e7 hq1 hq2
   obtain⟨W5,hW5,o5,B5⟩: ∃W5,w4.setCell ⟨rb,7,none⟩ (.slice A2 (N+1) c2')=W5∧Only (isb rb) w4 W5∧Blk W5 rb 65 #[.int .i64 c.semi,.int .i64 c.large,.int .i64 c.slots,.int .i64 c.limit,.int .i64 (Zj c sec).1,.int .i64 (Zj c sec).2,.int .i64 (loT c sec+sSm c (ds.take k)),.slice A2 (N+1) c2',.slice A' FR'.length c']:=⟨_,rfl,Zc _ _ _ _,by simpa using B4.out.put 7 (.slice A2 (N+1) c2')⟩
   go_wp2_with fail
   go_ret2;have hno:Only (RmF rb (.slice Av N cv)) w W5:=(((O1.out.mono fun _ _ h=>h.elim).trans (O2.out.mono fun i _ h=>.inl h)).trans (((Only.refl nob W2).alloc (.cells #[.int .i64 z,.int .i64 n] 61)).mono fun _ _ h=>h.elim)).trans ((O4.out.mono fun i _ h=>.inr h).trans (o5.mono fun i _ h=>.inl h));refine⟨fun _=>⟨z,.slice A2 (N+1) c2',.slice A' FR'.length c',rfl,HPL.out,?_,?_,?_⟩,fun h=>absurd HY.out h,hno⟩
   · rw[HSM.out];exact B5
   · rw[HLL.out,Yr, ← HN.out]
     exact Zb T4.out o5 (Zd T4.out B4.out (by decide))
   · rw[← HFR'.out]
     exact .inr ⟨Zak (base':=0) (Zb F4.out o5 (Zd F4.out B4.out (by decide))) fun _ _=>Yt _,HBK.out⟩
theorem ZoD (hok:c.ok) (hcf:CFit c) (hz:ZcJ ds) (hlen:ds.length≤1000) (hd:ds[k]? =some d) (hr:Zw c sec ds k) (H:Rm w rb c sec ds k tv fv):
 Calls Tryz.prog 50 #[.pointer (some ⟨rb,0,none⟩),.int .i64 (ndSz d)] w (Zkz rb c sec ds k tv w):=by
 have hsz:=hz d (Yn hd);have HSM:=ZZ (Zf3 c (ndSz d) w hcf (by unfold I64;omega));have HH:=ZZ H;have BR:=ZZ H.blk;have d0:w.cell? ⟨rb,0,none⟩=some (.int .i64 c.semi):=BR.out.cell 0;have d1:w.cell? ⟨rb,1,none⟩=some (.int .i64 c.large):=BR.out.cell 1;have d2:w.cell? ⟨rb,2,none⟩=some (.int .i64 c.slots):=BR.out.cell 2;have d3:w.cell? ⟨rb,3,none⟩=some (.int .i64 c.limit):=BR.out.cell 3;have HTS:=ZZ (fun (W:World) (o:Only nob w W) (hs:ZaD c d=true)=>ZgD hok hz hd hs hr (HH.out.keep o));have HTL:=ZZ (fun (W:World) (o:Only nob w W) (hs:ZaD c d=false)=>ZgU hok hz hlen hd hs hr (HH.out.keep o))
 obtain⟨q,hq⟩: ∃q,q=ZX c (ndSz d):=⟨_,rfl⟩
 rw[← hq] at HSM;have HQ:=ZZ (show q=ZaD c d from hq)
 obtain⟨n,hn⟩: ∃n,n=ndSz d:=⟨_,rfl⟩
 rw[← hn] at HSM HTS HTL;rw[← hn];clear hq hn hsz hr hd hz hok H
 go_enter Tryz.func50,Tryz.ntmps50
 go_wp2_with fail
 go_at_call 80;refine HSM.out.mono ?_;rintro e w1 ⟨rfl,o⟩;have O1:=ZZ o;clear o d0 d1 d2 d3
 cases q
 case true=>
  go_wp2_with fail
  go_at_call 81;refine(HTS.out w1 O1.out HQ.out.symm).mono ?_;intro e w2 HT;have HT:=ZZ HT;by_cases hr:Zw c sec ds (k+1)
  · obtain⟨z,tv',fv',rfl,hp,hrm⟩:=HT.out.1 hr
    have HP:=ZZ (And.intro hr (And.intro hp hrm));have OT:=ZZ ((O1.out.mono fun _ _ h=>h.elim).trans HT.out.2.2);clear HT hp hrm hr;go_wp2;go_ret2;exact⟨fun _=>⟨z,tv',fv',rfl,HP.out.2.1,HP.out.2.2⟩,fun h=>absurd HP.out.1 h,OT.out⟩
  · obtain rfl:=HT.out.2.1 hr
    have HP:=ZZ hr;have OT:=ZZ ((O1.out.mono fun _ _ h=>h.elim).trans HT.out.2.2);clear HT hr;go_wp2;go_ret2;exact⟨fun h=>absurd h HP.out,fun _=>rfl,OT.out⟩
 case false=>
  go_wp2_with fail
  go_at_call 82;refine(HTL.out w1 O1.out HQ.out.symm).mono ?_;intro e w2 HT;have HT:=ZZ HT;by_cases hr:Zw c sec ds (k+1)
  · obtain⟨z,tv',fv',rfl,hp,hrm⟩:=HT.out.1 hr
    have HP:=ZZ (And.intro hr (And.intro hp hrm));have OT:=ZZ ((O1.out.mono fun _ _ h=>h.elim).trans HT.out.2.2);clear HT hp hrm hr;go_wp2;go_ret2;exact⟨fun _=>⟨z,tv',fv',rfl,HP.out.2.1,HP.out.2.2⟩,fun h=>absurd HP.out.1 h,OT.out⟩
  · obtain rfl:=HT.out.2.1 hr
    have HP:=ZZ hr;have OT:=ZZ ((O1.out.mono fun _ _ h=>h.elim).trans HT.out.2.2);clear HT hr;go_wp2;go_ret2;exact⟨fun h=>absurd h HP.out,fun _=>rfl,OT.out⟩
end
end Go.Proofs.YtknoncenblehkaaGreatDoor
