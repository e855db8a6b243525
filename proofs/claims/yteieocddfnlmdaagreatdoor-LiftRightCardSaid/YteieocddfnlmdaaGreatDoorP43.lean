/- Package lift: the values of slots, what is met, alike. Package lift, all of it. -/
import Derived.Test.YteieocddfnlmdaaGreatDoorP42
import Derived.Test.YteieocddfnlmdaaGreatDoorP39
namespace Go.Proofs.YteieocddfnlmdaaGreatDoor
open Go.RowKit Go.Lib
set_option maxRecDepth 100000
set_option linter.unusedSimpArgs false
set_option linter.unusedVariables false
set_option maxHeartbeats 4000000 in
theorem ZoJ:ZlX 10:=by
 intro s vw vt vf vs B w h hB hok hpar hL;obtain⟨V,hV,HB⟩:=Zv w s vw vt vf vs;have HVE:=ZZ hV
 obtain⟨sb,hsb⟩: ∃p,p=w.heap.size:=⟨_,rfl⟩
 have SB:=ZZ HB.out.2.2;rw[← hsb] at SB;have HSB:=ZZ hsb;have OV:=ZZ HB.out.1;have HCK:=ZZ (ZpZ s _ _ _ _ B V (h.only OV.out hB) (Nat.le_trans hB OV.out.size) hok (hpar.old OV.out));have HSW:=ZZ (fun (W':World) (o:Only nob w W')=>Zm7 s vw vt vf vs B W' (h.only o hB) (Nat.le_trans hB o.size) hok)
 obtain⟨q,hq⟩: ∃q,q=ZT s:=⟨_,rfl⟩
 have HRT:=ZZ (show q=0→obE s=0∧(swL s.sl).map Zn0=liV s from fun e=>⟨(Za6 (hq.symm.trans e)).1,by unfold swL liV;rw[if_pos (hq.symm.trans e),List.map_map];rfl⟩);have HN:=ZZ (show ¬q=0→obE s=4∧liV s=[] from fun e=>⟨(ZeS (fun h=>e (hq.trans h))).1,if_neg (fun h=>e (hq.trans h))⟩)
 have HPW:=ZZ (show ∀x∈swL s.sl,x<18446744073709551616 from fun x hx=>by
  unfold swL at hx;obtain⟨t,ht,rfl⟩:=List.mem_map.1 hx
  exact Zgb hok.sl ht)
 have HPL:=ZZ (show(swL s.sl).length≤1000000 by
  unfold swL;rw[List.length_map];have h1:=Zf1 s.sl;have h2:=hok.few.2.2.2
  omega)
 rw[← hq] at HCK
 obtain⟨E,hE⟩: ∃E,E=obE s:=⟨_,rfl⟩
 obtain⟨M,hM⟩: ∃E,E=liV s:=⟨_,rfl⟩
 rw[← hE, ← hM] at HRT HN ⊢;obtain⟨c0,c1,c2,c3,c4,c5,c6,c7,c8,c9⟩:=SB.out;clear hV h hB hok hpar hL hq hE hM hsb
 go_enter Tryz.func10,Tryz.ntmps10
 go_upto_region 1 with fail
 rw[HVE.out, ← HSB.out]
 go_wp2_with fail
 go_at_call 19;refine HCK.out.mono ?_;rintro e Z ⟨rfl,o⟩;have OZ:=ZZ (OV.out.trans o);have SZ:=ZZ (SB.out.keep o);clear o c0 c1 c2 c3 c4 c5 c6 c7 c8 c9;by_cases hq0:q=0
 case neg=>
  have hbq:(q !=0)=true:=by simpa using hq0
  have HN2:=ZZ (HN.out hq0);clear hq0;go_wp2;go_ret2;exact⟨.slice none 0 0,by rw[HN2.out.1];rfl,by rw[HN2.out.2];exact Sl.nil_,OZ.out⟩
 case pos=>
 have HY2:=ZZ (HRT.out hq0);subst hq0;obtain⟨c0,c1,c2,c3,c4,c5,c6,c7,c8,c9⟩:=SZ.out
 go_wp2_with fail
 go_at_call 30;refine(HSW.out Z OZ.out).mono ?_;rintro e w5 ⟨v5,rfl,hs5,o5⟩;have O5:=ZZ (OZ.out.trans o5);have HTU:=ZZ (Zgm v5 (swL s.sl) 28 #[] _ _ w5.heap.size w5 (ZhO w5) hs5 (Nat.le_refl _) HPL.out HPW.out);rw[HY2.out.2] at HTU;clear hs5 o5 c0 c1 c2 c3 c4 c5 c6 c7 c8 c9
 go_wp2_with fail
 go_at_call 29;refine HTU.out.mono ?_;rintro e w6 ⟨vr,rfl,own6,o6⟩;have O6:=ZZ (O5.out.trans o6);have H6:=ZZ own6;clear own6 o6;go_wp2;go_ret2;exact⟨_,by rw[HY2.out.1];rfl,Sl.of_own H6.out H6.out.1,O6.out⟩
set_option maxHeartbeats 8000000 in
theorem Zr7:ZrZ 12:=by
 intro s vw vt vf vs B w h hB hok hpar hL;obtain⟨V,hV,HB⟩:=Zv w s vw vt vf vs;have HVE:=ZZ hV
 obtain⟨sb,hsb⟩: ∃p,p=w.heap.size:=⟨_,rfl⟩
 have SB:=ZZ HB.out.2.2;rw[← hsb] at SB;have HSB:=ZZ hsb;have OV:=ZZ HB.out.1;have HLF:=ZZ (Zjc s _ _ _ _ B V (h.only OV.out hB) (Nat.le_trans hB OV.out.size) hok (hpar.old OV.out) hL);have HFIT:=ZZ (liG_fit hok hL);have HBD:=ZZ (liG_bd hL);have HLY:=ZZ (Zpm (s:=s));have HLN:=ZZ (Zs3 (s:=s));have HOY:=ZZ (fun e=>(Za6 (s:=s) e).1);have HON:=ZZ (fun e=>(ZeS (s:=s) e).1);obtain⟨c0,c1,c2,c3,c4,c5,c6,c7,c8,c9⟩:=SB.out
 obtain⟨q,hq⟩: ∃q,q=ZT s:=⟨_,rfl⟩
 obtain⟨E,hE⟩: ∃E,E=obE s:=⟨_,rfl⟩
 obtain⟨G,hG⟩: ∃E,E=liG s:=⟨_,rfl⟩
 obtain⟨lim,hlim⟩: ∃E,E=s.cf.limit:=⟨_,rfl⟩
 have HLIM:=ZZ hlim;rw[← hq, ← hE] at HOY HON;rw[← hq, ← hG, ← hlim] at HLY;rw[← hq] at HLN;rw[← hE, ← hG] at HLF;rw[← hG] at HFIT HBD;rw[← hE];clear hV h hB hok hpar hL hq hE hG hlim hsb
 go_enter Tryz.func12,Tryz.ntmps12
 go_upto_region 1 with fail
 rw[HVE.out, ← HSB.out]
 go_wp2_with fail
 go_at_call 8;refine HLF.out.mono ?_;rintro e Z ⟨un,ur,js,v,rfl,rd,hs,o⟩;have RD:=ZZ rd;obtain⟨An,cn,rfl, -⟩:=rd.nodes.form;obtain⟨Ar,cr,rfl, -⟩:=rd.roots.form;obtain⟨Al,cl,rfl, -⟩:=hs.form;obtain⟨X,hX,HBX⟩:=ZF Z (.slice An G.nd.length cn) (.slice Ar G.rt.length cr);have HX:=ZZ hX;have OX:=ZZ (o.trans HBX.out.1);have g0:X.cell? ⟨Z.heap.size,0,none⟩=some (.slice An G.nd.length cn):=HBX.out.2.cell 0;have g1:X.cell? ⟨Z.heap.size,1,none⟩=some (.slice Ar G.rt.length cr):=HBX.out.2.cell 1;clear rd hs o hX c0 c1 c2 c3 c4 c5 c6 c7 c8 c9
 go_upto_region 2 with fail
 rw[HX.out];by_cases hq0:q=0
 case neg=>
  have HE4:=ZZ (HON.out hq0);have h4:=HE4.out;subst h4;have HZ:=ZZ (HLN.out hq0);have OE:=ZZ (OV.out.trans OX.out);clear g0 g1 hq0;go_wp2;exact bodyPost_ret (v:=.tuple #[.int .i64 0,.int .i64 0,.int .i64 0,.int .i64 0,.int .i64 4]) (by simp[results,Tryz.results12,go_sem]) rfl ⟨by rw[HZ.out.1,HZ.out.2.1,HZ.out.2.2.1,HZ.out.2.2.2],OE.out⟩
 case pos=>
  have h0:=HOY.out hq0;subst h0;have HY:=ZZ (HLY.out hq0);have R1:=ZZ (RD.out.only HBX.out.1 (Nat.le_refl _));have HRC:=ZZ (Zp0 G _ _ js Z.heap.size X R1.out HBX.out.1.size HFIT.out ⟨by have:=HBD.out.1;omega,by have:=HBD.out.2;omega⟩);have HLV:=ZZ (fun (W':World) (o:Only nob X W')=>Zrx G _ _ js Z.heap.size W' lim (R1.out.only o HBX.out.1.size) (Nat.le_trans HBX.out.1.size o.size) HFIT.out ⟨by have:=HBD.out.1;omega,by have:=HBD.out.2;omega⟩ (by have:=HBD.out.1;omega))
  obtain⟨n,hn⟩: ∃n,n=(ZbB G).length:=⟨_,rfl⟩
  obtain⟨ws,hws⟩: ∃n,n=Zhy G (ZQ G lim 0 1):=⟨_,rfl⟩
  obtain⟨wl,hwl⟩: ∃n,n=Zhy G (ZY G lim 0 1):=⟨_,rfl⟩
  obtain⟨fl,hfl⟩: ∃n,n=wrap64 (ZiR G (ZQ G lim 0 1)+ZiR G (ZY G lim 0 1)):=⟨_,rfl⟩
  obtain⟨E1,hE1⟩: ∃n,n=Za7 G:=⟨_,rfl⟩
  obtain⟨E2,hE2⟩: ∃n,n=Zch G lim 0 1:=⟨_,rfl⟩
  rw[← hn, ← hws, ← hwl, ← hfl] at HY;rw[← hn, ← hE1] at HRC;rw[← hws, ← hwl, ← hfl, ← hE2] at HLV;have HCC:=ZZ (fun (W':World) (o:Only nob X W')=>(SB.out.keep (OX.out.trans o)).c3);rw[← HLIM.out] at HCC;clear hn hws hwl hfl hE1 hE2 hq0
  go_wp2_with fail
  go_at_call 37;refine HRC.out.mono ?_;rintro e w3 ⟨v3,rfl,h3,o3⟩;obtain⟨A3,k3,rfl, -, -⟩:=h3.form;have O3:=ZZ o3;have e0:=o3.keeps g0;have e1:=o3.keeps g1;have c3:=HCC.out w3 o3;clear h3 o3 g0 g1
  go_wp2_with fail
  go_at_call 38;refine(HLV.out w3 O3.out).mono ?_;rintro e w4 ⟨rfl,o4⟩;have O4:=ZZ (OV.out.trans (OX.out.trans (O3.out.trans o4)));clear o4 e0 e1 c3;go_wp2;exact bodyPost_ret (v:=.tuple #[.int .i64 n,.int .i64 ws,.int .i64 wl,.int .i64 fl,.int .i64 0]) (by simp[results,Tryz.results12,go_sem]) rfl ⟨by rw[HY.out.1,HY.out.2.1,HY.out.2.2.1,HY.out.2.2.2],O4.out⟩
set_option maxHeartbeats 8000000 in
theorem Zqm:Zpp 17:=by
 intro s t vw vt vf vs uw ut uf us B w h k hB hok hok' hpar hL hL';obtain⟨V0,hV0,HB0⟩:=Zv w s vw vt vf vs;obtain⟨V,hV,HB⟩:=Zv V0 t uw ut uf us;have HV0:=ZZ hV0;have HV:=ZZ hV
 obtain⟨sb,hsb⟩: ∃p,p=w.heap.size:=⟨_,rfl⟩
 have hs0:V0.heap.size=sb+1:=by rw[← hV0,hsb];simp
 have SB:=ZZ (HB0.out.2.2.keep HB.out.1);rw[← hsb] at SB;have TB:=ZZ HB.out.2.2;rw[hs0] at TB;have HSB:=ZZ hsb;have OV:=ZZ (HB0.out.1.trans HB.out.1);have HLF:=ZZ (Zjc s _ _ _ _ B V (h.only OV.out hB) (Nat.le_trans hB OV.out.size) hok (hpar.old OV.out) hL);have HLT:=ZZ (fun (W':World) (o:Only nob w W')=>Zjc t _ _ _ _ B W' (k.only o hB) (Nat.le_trans hB o.size) hok' (hpar.old o) hL');have HFI:=ZZ (And.intro (liG_fit hok hL) (liG_fit hok' hL'));have HBD:=ZZ (And.intro (liG_bd hL) (liG_bd hL'));have HAY:=ZZ (Zfz (s:=s) (t:=t));have HAN:=ZZ (Ze2 (s:=s) (t:=t));have HOY:=ZZ (fun e=>(Za6 (s:=s) e).1);have HON:=ZZ (fun e=>(ZeS (s:=s) e).1);have HPY:=ZZ (fun e=>(Za6 (s:=t) e).1);have HPN:=ZZ (fun e=>(ZeS (s:=t) e).1);obtain⟨c0,c1,c2,c3,c4,c5,c6,c7,c8,c9⟩:=SB.out
 obtain⟨z,hz⟩: ∃z,z=ZcW s t:=⟨_,rfl⟩
 obtain⟨q,hq⟩: ∃q,q=ZT s:=⟨_,rfl⟩
 obtain⟨q',hq'⟩: ∃q,q=ZT t:=⟨_,rfl⟩
 obtain⟨E,hE⟩: ∃E,E=obE s:=⟨_,rfl⟩
 obtain⟨E',hE'⟩: ∃E,E=obE t:=⟨_,rfl⟩
 obtain⟨G,hG⟩: ∃E,E=liG s:=⟨_,rfl⟩
 obtain⟨G',hG'⟩: ∃E,E=liG t:=⟨_,rfl⟩
 rw[← hz, ← hq, ← hq'] at HAY HAN;rw[← hG, ← hG'] at HAY;rw[← hq, ← hE] at HOY HON;rw[← hq', ← hE'] at HPY HPN;rw[← hE, ← hG] at HLF;rw[← hE', ← hG'] at HLT;rw[← hG, ← hG'] at HFI HBD;rw[← hz];clear hV0 hV h k hB hok hok' hpar hL hL' hq hq' hE hE' hG hG' hsb hz hs0
 go_enter Tryz.func17,Tryz.ntmps17
 go_upto_region 1 with fail
 rw[HV0.out,HV.out, ← HSB.out]
 go_wp2_with fail
 go_at_call 8;refine HLF.out.mono ?_;rintro e Z ⟨un,ur,js,v,rfl,rd,hs,o⟩;have RD:=ZZ rd;obtain⟨An,cn,rfl, -⟩:=rd.nodes.form;obtain⟨Ar,cr,rfl, -⟩:=rd.roots.form;obtain⟨Al,cl,rfl, -⟩:=hs.form;obtain⟨X,hX,HBX⟩:=ZF Z (.slice An G.nd.length cn) (.slice Ar G.rt.length cr);have HX:=ZZ hX;have OX:=ZZ (OV.out.trans (o.trans HBX.out.1));have TX:=ZZ (TB.out.keep (o.trans HBX.out.1));clear rd hs o hX c0 c1 c2 c3 c4 c5 c6 c7 c8 c9;obtain⟨c0,c1,c2,c3,c4,c5,c6,c7,c8,c9⟩:=TX.out
 go_upto_region 2 with fail
 rw[HX.out]
 go_wp2_with fail
 go_at_call 8;refine(HLT.out X OX.out).mono ?_;rintro e Z2 ⟨un2,ur2,js2,v2,rfl,rd,hs,o⟩;have RD2:=ZZ rd;obtain⟨An2,cn2,rfl, -⟩:=rd.nodes.form;obtain⟨Ar2,cr2,rfl, -⟩:=rd.roots.form;obtain⟨Al2,cl2,rfl, -⟩:=hs.form;obtain⟨Y,hY,HBY⟩:=ZF Z2 (.slice An2 G'.nd.length cn2) (.slice Ar2 G'.rt.length cr2);have HY:=ZZ hY;have OXY:=ZZ (o.trans HBY.out.1);have OY:=ZZ (OX.out.trans OXY.out);have g0:Y.cell? ⟨Z.heap.size,0,none⟩=some (.slice An G.nd.length cn):=(HBX.out.2.keep OXY.out id).cell 0;have g1:Y.cell? ⟨Z.heap.size,1,none⟩=some (.slice Ar G.rt.length cr):=(HBX.out.2.keep OXY.out id).cell 1;have e0:Y.cell? ⟨Z2.heap.size,0,none⟩=some (.slice An2 G'.nd.length cn2):=HBY.out.2.cell 0;have e1:Y.cell? ⟨Z2.heap.size,1,none⟩=some (.slice Ar2 G'.rt.length cr2):=HBY.out.2.cell 1;clear rd hs o hY c0 c1 c2 c3 c4 c5 c6 c7 c8 c9
 go_upto_region 3 with fail
 rw[HY.out];by_cases hq0:q=0
 case neg=>
  have HF:=ZZ (HAN.out (.inl hq0));have hf:=HF.out;have h4:=HON.out hq0;subst h4;subst hf;clear g0 g1 e0 e1 hq0;go_wp2;go_ret;exact⟨rfl,OY.out⟩
 case pos=>
 by_cases hq1:q'=0
 case neg=>
  have HF:=ZZ (HAN.out (.inr hq1));have hf:=HF.out;have h0:=HOY.out hq0;have h4:=HPN.out hq1;subst h0;subst h4;subst hf;clear g0 g1 e0 e1 hq1 hq0;go_wp2;go_ret;exact⟨rfl,OY.out⟩
 case pos=>
  have HZ:=ZZ (HAY.out hq0 hq1);have h0:=HOY.out hq0;have h4:=HPY.out hq1;subst h0;subst h4;have RA:=ZZ ((RD.out.only (HBX.out.1.trans OXY.out) (Nat.le_refl _)).more (HBX.out.1.trans OXY.out).size);have RB:=ZZ ((RD2.out.only HBY.out.1 (Nat.le_refl _)).more HBY.out.1.size);have HMT:=ZZ (ZiP G G' _ _ _ _ js js2 Y.heap.size Y RA.out RB.out (Nat.le_refl _) HFI.out.1 HFI.out.2 (by have:=HBD.out.1.1;omega) (by have:=HBD.out.1.2;omega) (by have:=HBD.out.2.1;omega) (by have:=HBD.out.2.2;omega));rw[← HZ.out] at HMT;clear hq0 hq1
  go_wp2_with fail
  go_at_call 42;refine HMT.out.mono ?_;rintro e w9 ⟨rfl,o9⟩;have O9:=ZZ (OY.out.trans o9);clear o9 g0 g1 e0 e1;go_wp2;go_ret;exact⟨rfl,O9.out⟩
end Go.Proofs.YteieocddfnlmdaaGreatDoor
namespace Go.Proofs.YteieocddfnlmdaaGreatDoor
theorem ZsW:LiC:=⟨Zjc,ZoJ,Zr7,Zqm⟩
end Go.Proofs.YteieocddfnlmdaaGreatDoor
