/- The document's own answer for layer 20: nodes written at the -/
import Derived.Test.YtknoncenblehkaaGreatDoorG37
set_option maxRecDepth 100000
set_option maxHeartbeats 32000000
set_option linter.unusedSimpArgs false
set_option linter.unusedVariables false
namespace Go.Proofs.YtknoncenblehkaaGreatDoor
open Go.RowKit Go.Lib
structure WrOk (n:Nat) (pl:List Int) (ds:List Nd):Prop where
 len:pl.length=ds.length
 fits: ∀(i:Nat) p d,pl[i]? =some p→ds[i]? =some d→0≤p∧p.toNat+(rowW pl d).length≤n
 may: ∀d∈ds,hmay d.kd d.fs.length d.rs.length 0=true
 lead: ∀d∈ds, ∀v∈d.fs,v.1=2→0≤v.2∧v.2<(pl.length:Int)
theorem ZeN {pl:List Int} {ds:List Nd} (h:pl.length=ds.length):(rowsOf pl ds).length=ds.length:=by
 unfold rowsOf;rw[List.length_map,List.length_zip,h,Nat.min_self]
theorem ZfN {pl:List Int} {ds:List Nd} {i:Nat} {p:Int} {d:Nd} (h1:pl[i]? =some p) (h2:ds[i]? =some d):(rowsOf pl ds)[i]? =some (p.toNat,rowW pl d):=by
 unfold rowsOf;have hz:(pl.zip ds)[i]? =some (p,d):=List.getElem?_zip_eq_some.2 ⟨h1,h2⟩;rw[List.getElem?_map,hz];rfl
theorem WrOk.inW {n:Nat} {pl:List Int} {ds:List Nd} (h:WrOk n pl ds):InW n (rowsOf pl ds):=fun x hx=>by
 obtain⟨i,p,d,h1,h2,rfl⟩:=(Zmr h.len).1 hx;exact(h.fits i p d h1 h2).2
theorem WrOk.wr_len {n:Nat} {pl:List Int} {ds:List Nd} (h:WrOk n pl ds) (k:Nat):(Zav ((rowsOf pl ds).take k) (List.replicate n 0)).length=n:=by
 rw[ZdW _ _ fun x hx=>by rw[List.length_replicate];exact h.inW x (List.mem_of_mem_take hx),List.length_replicate]
theorem LoOk.wrOk {c:Cf} {sec:Bool} {g:Gr} (h:LoOk c sec g):WrOk (Zk c).toNat (loPl c sec g) g.nd:=by
 refine⟨Zbo ..,fun i p d hp hd=>?_,fun d hd=>Zjq (h.nd_ok hd),fun d hd v hv h2=>?_⟩
 · obtain⟨z1,z2⟩:=ZfM (c:=c) (sec:=sec) hd
   obtain rfl:p=atP c sec g i:=by rw[hp] at z1;exact Yo z1
   have a:=h.at_in z2;have l:=h.len_of z2;have w:=Za7 h.ok;simp only at a l;exact⟨a.1,by omega⟩
 · obtain⟨i,h3,h4, -⟩:=(h.tgt ((Zbe.1 (h.nd_ok hd)).2.2.2 v hv)).2.1 h2
   have:(loPl c sec g).length=g.nd.length:=Zbo ..
   omega
theorem Zj6 {d:Nd} (h:hmay d.kd d.fs.length d.rs.length 0=true):hEW d.kd d.fs.length d.rs.length false 0=(hdW d:Nat):=by
 rw[ZgK false h]
 have:=Zps false h
 unfold hdW;omega
theorem Zlr (g:Gr) (vn vr pv:Value) (hs:List (Value×Value)) (pl:List Int) (n:Nat) (B:Nat) (w:World) (hr:RdG w B g vn vr hs) (hp:Sl w B 1 pv pl.length (i64s pl)) (hB:B≤w.heap.size) (hn:n≤98304) (hwo:WrOk n pl g.nd):
 Calls Tryz.prog 24 #[.int .i64 (n:Nat),.agg #[vn,vr],pv] w fun e w'=> ∃v',e=.returned v'∧w'.ownsRow w.heap.size 57 1 v' n (u64s (Zav (rowsOf pl g.nd) (List.replicate n 0)))∧Only nob w w':=by
 have HR:=ZZ hr;have HPL:=ZZ hp;have HWO:=ZZ hwo;have HBB:=ZZ hB;obtain⟨An,cn,rfl,hacn,hcmn⟩:=hr.nodes.form;obtain⟨Ar,cr,rfl, -⟩:=hr.roots.form;obtain⟨Ap,cp,rfl,hacp,hcmp⟩:=hp.form;unfold maxLen at hcmn hcmp;obtain⟨W,hW,HBW⟩:=Zih w (.slice An g.nd.length cn) (.slice Ar g.rt.length cr);have HWE:=ZZ hW
 obtain⟨gb,hgb⟩: ∃p,p=w.heap.size:=⟨_,rfl⟩
 have HGB:=ZZ hgb;have BG:=ZZ HBW.out.2;rw[← hgb] at BG;have OW:=ZZ HBW.out.1;obtain⟨V,hmk,oV,RV⟩:=Zfr n (by omega) W;have OV:=ZZ oV;have HRV:=ZZ RV
 obtain⟨b,hb⟩: ∃p,p=W.heap.size:=⟨_,rfl⟩
 have HBE:=ZZ hb;rw[← hb] at HRV hmk
 have hgl:gb<b:=by rw[hb];exact BG.out.lt
 obtain⟨N,hN⟩: ∃N,N=g.nd.length:=⟨_,rfl⟩
 have HN:=ZZ hN;have HPN:=ZZ (show pl.length=N by rw[hN];exact hwo.len);rw[← hN] at hacn;clear hr hp hwo hB hW hgb oV RV hb
 go_enter Tryz.func24,Tryz.ntmps24
 go_upto_region 1 with fail
 rw[HWE.out, ← HGB.out]
 go_upto_region 2 with fail
 clear hmk
 go_wp2_with fail
 go_loopw [8,9,10,11,12] (fun vi _ _ _ _ wr=> ∃k:Nat,k≤N∧vi=.int .i64 k∧Hid (wr.ownsRow b 57 1 (.slice (some ⟨b,0,none⟩) n n) n (u64s (Zav ((rowsOf pl g.nd).take k) (List.replicate n 0))))∧Hid (Only nob W wr)) (fun vi _ _ _ _ _=>N - (RowKit.intOf vi).toNat)
 case atStart=>exact⟨0,Yt _,rfl,HRV,OV⟩
 case round=>
 obtain⟨k,hk,rfl,HRW,HO⟩:=hrel;have OWW:=ZZ (OW.out.trans HO.out);have g0:wr.cell? ⟨gb,0,none⟩=some (.slice An g.nd.length cn):=(BG.out.keep HO.out id).cell 0;rw[← HN.out] at g0;by_cases hlt:k<N
 case pos=>
  obtain⟨d,hd⟩: ∃x,g.nd[k]? =some x:=⟨_,Ya (by rw[← HN.out];exact hlt)⟩
  obtain⟨z,hz⟩: ∃x,pl[k]? =some x:=⟨_,Ya (by rw[HPN.out];exact hlt)⟩
  obtain⟨hz0,hfit⟩:=HWO.out.fits k z d hz hd;have hmay:=HWO.out.may d (Yn hd)
  obtain⟨p,rfl⟩: ∃p:Nat,z=p:=⟨z.toNat,by omega⟩
  rw[Int.toNat_natCast,Zck] at hfit;obtain⟨bb,oo,fv,rv,hA,hbb,hh,q0,q1,q2,hnd⟩:=HR.out.at_ (OWW.out.below HBB.out fun _ h=>h.elim) hd;subst hA;obtain⟨Af,cf,hfv,haf,hcf⟩:=hnd.fields.form;obtain⟨Aq,cq,hrv,haq,hcq⟩:=hnd.raws.form;simp only at hfv hrv;subst hfv hrv;unfold maxLen at hcf hcq;have HND:=ZZ hnd;obtain⟨bp,op,hAp, -,z0⟩:=ZcP HPL.out (OWW.out.below HBB.out fun _ h=>h.elim) hz;subst hAp;obtain⟨X,hX,HBX⟩:=ZaA wr d.kd (.slice Af d.fs.length cf) (.slice Aq d.rs.length cq);have HX:=ZZ hX
  obtain⟨q,hq⟩: ∃p,p=wr.heap.size:=⟨_,rfl⟩
  have HQ:=ZZ hq;have BX:=ZZ HBX.out.2.1;rw[← hq] at BX;have OX:=ZZ HBX.out.1
  have hbq:b<q:=by rw[hq];exact(Zr HRW.out (k:=b) rfl).2
  obtain⟨L,hL⟩: ∃L,L=Zav ((rowsOf pl g.nd).take k) (List.replicate n 0):=⟨_,rfl⟩
  have HLL:=ZZ (show L.length=n by rw[hL];exact HWO.out.wr_len k)
  obtain⟨R,hR⟩: ∃R,R=rowW pl d:=⟨_,rfl⟩
  have HNX:=ZZ (show Zav ((rowsOf pl g.nd).take (k+1)) (List.replicate n 0)=ZaS L p R by
   rw[List.take_add_one,ZfN hz hd];show Zav (_++[_]) _=_
   rw[ZcF, ← hL,hR,Int.toNat_natCast])
  have HRL:=ZZ (show R.length=1+d.fs.length+d.rs.length by rw[hR];exact Zck pl d);have HR0:=ZZ (show R[0]? =some (hdW d) by rw[hR];rfl)
  have HRF:=ZZ (show ∀(j:Nat) v,d.fs[j]? =some v→R[1+j]? =some (ZbK pl v) from fun j v hj=>by
   have hj2:=(Yj.1 hj).1;rw[hR];unfold rowW;rw[show 1+j=j+1 by omega,List.getElem?_cons_succ,List.getElem?_append_left (by rw[List.length_map];exact hj2),List.getElem?_map,hj]
   rfl)
  have HRR:=ZZ (show ∀(j:Nat) x,d.rs[j]? =some x→R[1+d.fs.length+j]? =some x from fun j x hj=>by
   rw[hR];unfold rowW
   rw[show 1+d.fs.length+j=(d.fs.length+j)+1 by omega,List.getElem?_cons_succ,List.getElem?_append_right (by rw[List.length_map];omega),List.length_map,show d.fs.length+j - d.fs.length=j by omega,hj])
  have HLD:=ZZ (HWO.out.lead d (Yn hd));rw[← hL] at HRW;have HEN:=ZZ (ZfF d.kd d.fs.length d.rs.length false 0 X);rw[Zj6 hmay,Zfg hmay] at HEN
  have hf4:d.fs.length≤4096:=by have:=ZF.1 hmay;omega
  have hr4:d.rs.length≤4096:=by have:=ZF.1 hmay;omega
  obtain⟨kd,hkd⟩: ∃z,z=d.kd:=⟨_,rfl⟩
  rw[← hkd] at q0 HX BX HEN
  obtain⟨hd',hhd⟩: ∃z,z=hdW d:=⟨_,rfl⟩
  rw[← hhd] at HEN HR0
  obtain⟨F,hF⟩: ∃z,z=d.fs.length:=⟨_,rfl⟩
  obtain⟨Q,hQ⟩: ∃z,z=d.rs.length:=⟨_,rfl⟩
  have HFQ:=ZZ (And.intro hF hQ);rw[← hF] at q1 HX BX HEN hf4 haf HRL hfit;rw[← hQ] at q2 HX BX HEN hr4 haq HRL hfit;clear hX hq hL hR hd hz hnd hh hmay hkd hhd hF hQ
  have hkp:k<pl.length:=by rw[HPN.out];exact hlt
  go_upto_region 6 with fail
  rw[HX.out, ← HQ.out];clear q0 q1 q2 g0;have x0:X.cell? ⟨q,0,none⟩=some (.int .i64 kd):=BX.out.cell 0;have x1:X.cell? ⟨q,1,none⟩=some (.slice Af F cf):=BX.out.cell 1;have x2:X.cell? ⟨q,2,none⟩=some (.slice Aq Q cq):=BX.out.cell 2;have z1:=OX.out.keeps z0;clear z0
  go_wp2_with fail
  clear hkp;go_at_call 60;refine HEN.out.mono ?_;rintro e X1 ⟨rfl,o1⟩;have O1:=ZZ o1;have HRW1:=ZZ (Zb (Zb HRW.out OX.out fun _ _=>id) o1 fun _ _=>id)
  have hpl:p<n:=by omega
  obtain⟨s0,hs0⟩: ∃z,L[p]? =some z:=⟨_,Ya (by rw[HLL.out];exact hpl)⟩
  have t0:X1.cell? ⟨b,p,none⟩=some (.int .u64 (s0:Nat)):=(HRW1.out.cellAt p (by omega)).trans (by unfold u64s;rw[List.getElem?_map,hs0];rfl);obtain⟨cs,hblk⟩:=ZaZ HRW1.out (k:=b) rfl;have f0:=hblk.free p
  obtain⟨X2,hX2,R2,o2⟩: ∃X2,X1.setCell ⟨b,p,none⟩ (.int .u64 (hd':Nat))=X2∧Hid (X2.ownsRow b 57 1 (.slice (some ⟨b,0,none⟩) n n) n (u64s (ZaS L p (R.take 1))))∧Only (isb b) X1 X2:=by
   refine⟨_,rfl,ZZ ?_,Zc _ _ _ _⟩;have h1:=Zan HRW1.out p (by omega) (.int .u64 (hd':Nat));rw[Za1] at h1;have h2:=Zbz (l:=L) (p:=p) HR0.out (by rw[HLL.out,HRL.out];omega);rw[List.take_zero,ZhG,Nat.add_zero] at h2
   rwa [h2] at h1
  have HX2:=ZZ hX2;have O2:=ZZ (show Only (isb b) X X2 from((Only.refl (isb b) X).andThen o1 fun _ _ h=>h.elim).andThen o2 fun _ _ h=>h);clear hX2 hs0 hblk o1 o2 x0 x1 x2
  have HKX:=ZZ (show ∀wx,Only (isb b) X wx→Only nob W wx∧Only nob w wx∧Below B wr wx∧Blk wx q 56 #[.int .i64 kd,.slice Af F cf,.slice Aq Q cq]∧wx.cell? ⟨gb,0,none⟩=some (.slice (some ⟨bb,oo,none⟩) N cn) from fun wx o=>by
   have a1:Only nob W wx:=(HO.out.trans OX.out).andThen o fun i hi e=>by unfold isb at e;rw[← HBE.out] at hi;omega
   have a2:Only nob w wx:=OW.out.trans a1
   have hBb:B≤b:=by rw[HBE.out];exact Yh HBB.out OW.out.size
   have a3:Below B wr wx:=(OX.out.below (Yh HBB.out OWW.out.size) fun _ h=>h.elim).trans (o.below (Yh HBB.out (OWW.out.trans OX.out).size) fun k e=>by unfold isb at e;omega);refine⟨a1,a2,a3,BX.out.keep o fun e=>by unfold isb at e;omega,?_⟩;rw[HN.out]
   exact(BG.out.keep a1 id).cell 0)
  obtain⟨p1,hp1⟩: ∃x,x=p+1:=⟨_,rfl⟩
  have HP1:=ZZ hp1
  have m1:IntKind.i64.wrap ((p:Int)+1)=(p1:Int):=by rw[IntKind.wrap_i64];omega
  clear hp1;clear HRW HRW1 HEN HR0
  go_upto_region 8 with fail
  rw[HX2.out];clear t0 f0 z1
  go_wp2_with fail
  go_loopw [11] (fun vj wx=> ∃j:Nat,j≤F∧vj=.int .i64 j∧Hid (wx.ownsRow b 57 1 (.slice (some ⟨b,0,none⟩) n n) n (u64s (ZaS L p (R.take (1+j)))))∧Hid (Only (isb b) X wx)) (fun vj _=>F - (RowKit.intOf vj).toNat)
  case atStart=>exact⟨0,Yt _,rfl,R2,O2⟩
  case round=>
  obtain⟨j,hj,rfl,HRJ,HOJ⟩:=hrel;obtain⟨a1,a2,a3,a4, -⟩:=HKX.out _ HOJ.out;have x1:wr.cell? ⟨q,1,none⟩=some (.slice Af F cf):=a4.cell 1;have x2:wr.cell? ⟨q,2,none⟩=some (.slice Aq Q cq):=a4.cell 2;by_cases hjl:j<F
  case pos=>
   obtain⟨v,hv⟩: ∃v,d.fs[j]? =some v:=⟨_,Ya (by have:=HFQ.out.1;omega)⟩
   obtain⟨bf,of_,hAf, -,v0,v1⟩:=Zy HND.out.fields a3 hv;subst hAf;have HWD:=ZZ (Zki pl v (.slice (some ⟨bp,op,none⟩) pl.length cp) B wr (HPL.out.below (a2.below HBB.out fun _ h=>h.elim)) (Yh HBB.out a2.size) (HLD.out v (Yn hv)));have HRX:=ZZ (HRF.out j v hv)
   obtain⟨ix,hix⟩: ∃x,x=p+1+j:=⟨_,rfl⟩
   have HIX:=ZZ hix
   have m2:IntKind.i64.wrap ((p1:Int)+(j:Int))=(ix:Int):=by have:=HP1.out;rw[IntKind.wrap_i64];omega
   have hin:ix<n:=by omega
   obtain⟨y,hy⟩: ∃y,y=ZbK pl v:=⟨_,rfl⟩
   rw[← hy] at HWD HRX;clear hy hv x2 a1 a2 a3 a4 hix
   go_wp2_with fail
   go_at_call 25;refine HWD.out.mono ?_;rintro e Y1 ⟨rfl,o1⟩;have HR1:=ZZ (Zb HRJ.out o1 fun _ _=>id);have hlen:=HR1.out.1;rw[ZV] at hlen
   obtain⟨s0,hs0⟩: ∃z,(ZaS L p (R.take (1+j)))[ix]? =some z:=⟨_,Ya (by omega)⟩
   have t0:Y1.cell? ⟨b,ix,none⟩=some (.int .u64 (s0:Nat)):=(HR1.out.cellAt ix (by omega)).trans (by unfold u64s;rw[List.getElem?_map,hs0];rfl);obtain⟨cs,hblk⟩:=ZaZ HR1.out (k:=b) rfl;have f0:=hblk.free ix
   obtain⟨Y2,hY2,R3,O3⟩: ∃X2,Y1.setCell ⟨b,ix,none⟩ (.int .u64 (y:Nat))=X2∧Hid (X2.ownsRow b 57 1 (.slice (some ⟨b,0,none⟩) n n) n (u64s (ZaS L p (R.take (1+(j+1))))))∧Hid (Only (isb b) X X2):=by
    refine⟨_,rfl,ZZ ?_,ZZ ((HOJ.out.andThen o1 fun _ _ h=>h.elim).andThen (Zc _ _ _ _) fun _ _ h=>h)⟩;have h1:=Zan HR1.out ix (by omega) (.int .u64 (y:Nat));rw[Za1] at h1;have h2:=Zbz (l:=L) (p:=p) HRX.out (by rw[HLL.out,HRL.out];omega);rw[show p+(1+j)=ix by have:=HIX.out;omega] at h2
    rwa [h2] at h1
   have HY2:=ZZ hY2;clear hY2 hs0 hblk o1 x1 v0 v1 hlen
   go_upto_region 10 with fail
   rw[HY2.out];clear t0 f0;go_wp2
   go_roundw
   case rel=>exact⟨j+1,by omega,by go_num,R3,O3⟩
   case measure=>simp[RowKit.intOf];omega
  case neg=>
  obtain rfl:j=F:=by omega
  obtain⟨wj,rfl⟩: ∃w9:World,w9=wr:=⟨_,rfl⟩
  clear x2 a1 a2 a3 a4 hjl
  go_wp2_with fail
  clear x1
  go_loopw [12] (fun vj wx=> ∃i:Nat,i≤Q∧vj=.int .i64 i∧Hid (wx.ownsRow b 57 1 (.slice (some ⟨b,0,none⟩) n n) n (u64s (ZaS L p (R.take (1+j+i)))))∧Hid (Only (isb b) X wx)) (fun vj _=>Q - (RowKit.intOf vj).toNat)
  case atStart=>exact⟨0,Yt _,rfl,HRJ,HOJ⟩
  case round=>
  obtain⟨i,hi,rfl,HRI,HOI⟩:=hrel;obtain⟨a1,a2,a3,a4,a5⟩:=HKX.out _ HOI.out;have x1:wr.cell? ⟨q,1,none⟩=some (.slice Af j cf):=a4.cell 1;have x2:wr.cell? ⟨q,2,none⟩=some (.slice Aq Q cq):=a4.cell 2;by_cases hil:i<Q
  case pos=>
   obtain⟨y,hy⟩: ∃v,d.rs[i]? =some v:=⟨_,Ya (by have:=HFQ.out.2;omega)⟩
   obtain⟨bf,of_,hAf,hbf,v0⟩:=Zdv HND.out.raws a3 hy;subst hAf;have HRX:=ZZ (show R[1+j+i]? =some y by have:=HRR.out i y hy;rwa [← HFQ.out.1] at this)
   obtain⟨ix,hix⟩: ∃x,x=p+1+j+i:=⟨_,rfl⟩
   have HIX:=ZZ hix
   obtain⟨p2,hp2⟩: ∃x,x=p+1+j:=⟨_,rfl⟩
   have m2:IntKind.i64.wrap ((p1:Int)+(j:Int))=(p2:Int):=by have:=HP1.out;rw[IntKind.wrap_i64];omega
   have m3:IntKind.i64.wrap ((p2:Int)+(i:Int))=(ix:Int):=by rw[IntKind.wrap_i64];omega
   have hin:ix<n:=by omega
   have HR1:=ZZ HRI.out;have hlen:=HR1.out.1;rw[ZV] at hlen
   obtain⟨s0,hs0⟩: ∃z,(ZaS L p (R.take (1+j+i)))[ix]? =some z:=⟨_,Ya (by omega)⟩
   have t0:wr.cell? ⟨b,ix,none⟩=some (.int .u64 (s0:Nat)):=(HR1.out.cellAt ix (by omega)).trans (by unfold u64s;rw[List.getElem?_map,hs0];rfl);obtain⟨cs,hblk⟩:=ZaZ HR1.out (k:=b) rfl;have f0:=hblk.free ix
   have hBb:B≤b:=by rw[HBE.out];exact Yh HBB.out OW.out.size
   obtain⟨Y2,hY2,R3,O3⟩: ∃X2,wr.setCell ⟨b,ix,none⟩ (.int .u64 (y:Nat))=X2∧Hid (X2.ownsRow b 57 1 (.slice (some ⟨b,0,none⟩) n n) n (u64s (ZaS L p (R.take (1+j+(i+1))))))∧Hid (Only (isb b) X X2):=by
    refine⟨_,rfl,ZZ ?_,ZZ (HOI.out.andThen (Zc _ _ _ _) fun _ _ h=>h)⟩;have h1:=Zan HR1.out ix (by omega) (.int .u64 (y:Nat));rw[Za1] at h1;have h2:=Zbz (l:=L) (p:=p) HRX.out (by rw[HLL.out,HRL.out];omega);rw[show p+(1+j+i)=ix by have:=HIX.out;omega] at h2
    rwa [h2] at h1
   have HY2:=ZZ hY2;clear hs0 hblk hy hlen a1 a2 a3 a4 a5 hix hp2 hY2
   go_wp2_with fail
   go_region
   rw[HY2.out];have R4:=ZZ (Zb R3.out ((Only.refl nob Y2).drewN 1) fun _ _=>id);have O4:=ZZ (O3.out.drewN 1);clear t0 f0 v0 x1 x2 m2 m3;go_wp2
   go_roundw
   case rel=>exact⟨i+1,by omega,by go_num,R4,O4⟩
   case measure=>simp[RowKit.intOf];omega
  case neg=>
  obtain rfl:i=Q:=by omega
  have HRE:=ZZ (show wr.ownsRow b 57 1 (.slice (some ⟨b,0,none⟩) n n) n (u64s (Zav ((rowsOf pl g.nd).take (k+1)) (List.replicate n 0))) by
   have h1:=HRI.out;rw[show R.take (1+j+i)=R by rw[← HRL.out,List.take_length]] at h1;rw[HNX.out]
   exact h1)
  have OE:=ZZ a1;clear a1 a2 a3 a4 hil x1;go_wp2
  go_roundw
  case rel=>exact⟨k+1,by omega,by go_num,HRE,OE⟩
  case measure=>simp[RowKit.intOf];omega
 case neg=>
 obtain rfl:k=N:=by omega
 have HRE:=ZZ (show wr.ownsRow b 57 1 (.slice (some ⟨b,0,none⟩) n n) n (u64s (Zav (rowsOf pl g.nd) (List.replicate n 0))) by
  have h1:=HRW.out
  rwa [show(rowsOf pl g.nd).take k=rowsOf pl g.nd by rw[HN.out, ← ZeN HWO.out.len,List.take_length]] at h1)
 have hbw:w.heap.size≤b:=by rw[HBE.out];exact OW.out.size
 have HRF:=ZZ (Zak HRE.out (base':=w.heap.size) fun j e=>by have:=(Zr HRE.out e).1;omega);go_wp2;go_ret;exact⟨_,rfl,HRF.out,OWW.out⟩
end Go.Proofs.YtknoncenblehkaaGreatDoor
