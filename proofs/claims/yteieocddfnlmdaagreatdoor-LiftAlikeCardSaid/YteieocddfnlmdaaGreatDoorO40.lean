/- The document's own answer for layer 19: values, what is met, The laws of chapter 19: walked, over what package lift is as The heaps of chapter 19's example: they may be, or not; thei -/
import Derived.Test.YteieocddfnlmdaaGreatDoorO39
import Derived.Test.YteieocddfnlmdaaGreatDoorO23
set_option maxRecDepth 100000
set_option maxHeartbeats 32000000
set_option linter.unusedSimpArgs false
set_option linter.unusedVariables false
namespace Go.Proofs.YteieocddfnlmdaaGreatDoor
section
open Go.RowKit Go.Lib
def Zn4 (f:FuncId):Prop:= ∀(s:St) (vw vt vf vs:Value) (B:Nat) (w:World),Rd w B s vw vt vf vs→B≤w.heap.size→StOk s→Par w→ZV s=false→
 Calls Tryz.prog f #[.agg #[.int .i64 s.cf.semi,.int .i64 s.cf.large,.int .i64 s.cf.slots,.int .i64 s.cf.limit,.bool s.sec,vw,.int .i64 s.top,vt,vf,vs]] w fun e w'=> ∃v,e=.returned (.tuple #[v,.int .i64 (obE s)])∧Sl w' w'.heap.size 2 v (liV s).length (spc (liV s))∧Only nob w w'
noncomputable def lvN (s:St):Int:=if Zal s=0 then((Zcf (liG s)).length:Int) else 0
noncomputable def lvA (s:St):Int:=if Zal s=0 then Zjg (liG s) (Zad (liG s) s.cf.limit 0 1) else 0
noncomputable def lvB (s:St):Int:=if Zal s=0 then Zjg (liG s) (Zao (liG s) s.cf.limit 0 1) else 0
noncomputable def lvF (s:St):Int:=if Zal s=0 then wrap64 (Zj8 (liG s) (Zad (liG s) s.cf.limit 0 1)+Zj8 (liG s) (Zao (liG s) s.cf.limit 0 1)) else 0
def ZtW (f:FuncId):Prop:= ∀(s:St) (vw vt vf vs:Value) (B:Nat) (w:World),Rd w B s vw vt vf vs→B≤w.heap.size→StOk s→Par w→ZV s=false→
 Calls Tryz.prog f #[.agg #[.int .i64 s.cf.semi,.int .i64 s.cf.large,.int .i64 s.cf.slots,.int .i64 s.cf.limit,.bool s.sec,vw,.int .i64 s.top,vt,vf,vs]] w fun e w'=>e=.returned (.tuple #[.int .i64 (lvN s),.int .i64 (lvA s),.int .i64 (lvB s),.int .i64 (lvF s),.int .i64 (obE s)])∧Only nob w w'
noncomputable def Zcc (a b:St):Bool:=decide (Zal a=0)&&(decide (Zal b=0)&&Zap (liG a) (liG b))
def Zm7 (f:FuncId):Prop:= ∀(s t:St) (vw vt vf vs uw ut uf us:Value) (B:Nat) (w:World),Rd w B s vw vt vf vs→Rd w B t uw ut uf us→B≤w.heap.size→StOk s→StOk t→Par w→ZV s=false→ZV t=false→
 Calls Tryz.prog f #[.agg #[.int .i64 s.cf.semi,.int .i64 s.cf.large,.int .i64 s.cf.slots,.int .i64 s.cf.limit,.bool s.sec,vw,.int .i64 s.top,vt,vf,vs],.agg #[.int .i64 t.cf.semi,.int .i64 t.cf.large,.int .i64 t.cf.slots,.int .i64 t.cf.limit,.bool t.sec,uw,.int .i64 t.top,ut,uf,us]] w fun e w'=>e=.returned (.bool (Zcc s t))∧Only nob w w'
theorem ZrL {s:St} (h:Zal s=0):lvN s=((Zcf (liG s)).length:Int)∧lvA s=Zjg (liG s) (Zad (liG s) s.cf.limit 0 1)∧lvB s=Zjg (liG s) (Zao (liG s) s.cf.limit 0 1)∧lvF s=wrap64 (Zj8 (liG s) (Zad (liG s) s.cf.limit 0 1)+Zj8 (liG s) (Zao (liG s) s.cf.limit 0 1)):=
 ⟨if_pos h,if_pos h,if_pos h,if_pos h⟩
theorem ZuM {s:St} (h: ¬Zal s=0):lvN s=0∧lvA s=0∧lvB s=0∧lvF s=0:=⟨if_neg h,if_neg h,if_neg h,if_neg h⟩
theorem ZdX {s t:St} (h:Zal s=0) (k:Zal t=0):Zcc s t=Zap (liG s) (liG t):=by unfold Zcc;rw[Ym h,Ym k];rfl
theorem Zdt {s t:St} (h: ¬Zal s=0∨ ¬Zal t=0):Zcc s t=false:=by
 unfold Zcc;rcases h with h|h
 · rw[Yl h];rfl
 · rw[Yl h];simp
theorem Zqn:Zm7 18:=by
 intro s t vw vt vf vs uw ut uf us B w h k hB hok hok' hpar hL hL';obtain⟨V0,hV0,HB0⟩:=Zu w s vw vt vf vs;obtain⟨V,hV,HB⟩:=Zu V0 t uw ut uf us;have HV0:=ZZ hV0;have HV:=ZZ hV
 obtain⟨sb,hsb⟩: ∃p,p=w.heap.size:=⟨_,rfl⟩
 have hs0:V0.heap.size=sb+1:=by rw[← hV0,hsb];simp
 have SB:=ZZ (HB0.out.2.2.keep HB.out.1);rw[← hsb] at SB;have TB:=ZZ HB.out.2.2;rw[hs0] at TB;have HSB:=ZZ hsb;have OV:=ZZ (HB0.out.1.trans HB.out.1);have HLF:=ZZ (ZoE s _ _ _ _ B V (h.only OV.out hB) (Yi hB OV.out.size) hok (hpar.old OV.out) hL);have HLT:=ZZ (fun (W':World) (o:Only nob w W')=>ZoE t _ _ _ _ B W' (k.only o hB) (Yi hB o.size) hok' (hpar.old o) hL');have HFI:=ZZ (And.intro (liG_fit hok hL) (liG_fit hok' hL'));have HBD:=ZZ (And.intro (liG_bd hL) (liG_bd hL'));have HAY:=ZZ (ZdX (s:=s) (t:=t));have HAN:=ZZ (Zdt (s:=s) (t:=t));have HOY:=ZZ (fun e=>(Zbv (s:=s) e).1);have HON:=ZZ (fun e=>(ZcA (s:=s) e).1);have HPY:=ZZ (fun e=>(Zbv (s:=t) e).1);have HPN:=ZZ (fun e=>(ZcA (s:=t) e).1);obtain⟨c0,c1,c2,c3,c4,c5,c6,c7,c8,c9⟩:=SB.out
 obtain⟨z,hz⟩: ∃z,z=Zcc s t:=⟨_,rfl⟩
 obtain⟨q,hq⟩: ∃q,q=Zal s:=⟨_,rfl⟩
 obtain⟨q',hq'⟩: ∃q,q=Zal t:=⟨_,rfl⟩
 obtain⟨E,hE⟩: ∃E,E=obE s:=⟨_,rfl⟩
 obtain⟨E',hE'⟩: ∃E,E=obE t:=⟨_,rfl⟩
 obtain⟨G,hG⟩: ∃E,E=liG s:=⟨_,rfl⟩
 obtain⟨G',hG'⟩: ∃E,E=liG t:=⟨_,rfl⟩
 rw[← hz, ← hq, ← hq'] at HAY HAN;rw[← hG, ← hG'] at HAY;rw[← hq, ← hE] at HOY HON;rw[← hq', ← hE'] at HPY HPN;rw[← hE, ← hG] at HLF;rw[← hE', ← hG'] at HLT;rw[← hG, ← hG'] at HFI HBD;rw[← hz];clear hV0 hV h k hB hok hok' hpar hL hL' hq hq' hE hE' hG hG' hsb hz hs0
 go_enter Tryz.func18,Tryz.ntmps18
 go_upto_region 1 with fail
 rw[HV0.out,HV.out, ← HSB.out]
 go_wp2_with fail
 go_at_call 9;refine HLF.out.mono ?_;rintro e Z ⟨un,ur,js,v,rfl,rd,hs,o⟩;have RD:=ZZ rd;obtain⟨An,cn,rfl, -⟩:=rd.nodes.form;obtain⟨Ar,cr,rfl, -⟩:=rd.roots.form;obtain⟨Al,cl,rfl, -⟩:=hs.form;obtain⟨X,hX,HBX⟩:=ZG Z (.slice An G.nd.length cn) (.slice Ar G.rt.length cr);have HX:=ZZ hX;have OX:=ZZ (OV.out.trans (o.trans HBX.out.1));have TX:=ZZ (TB.out.keep (o.trans HBX.out.1));clear rd hs o hX c0 c1 c2 c3 c4 c5 c6 c7 c8 c9;obtain⟨c0,c1,c2,c3,c4,c5,c6,c7,c8,c9⟩:=TX.out
 go_upto_region 2 with fail
 rw[HX.out]
 go_wp2_with fail
 go_at_call 9;refine(HLT.out X OX.out).mono ?_;rintro e Z2 ⟨un2,ur2,js2,v2,rfl,rd,hs,o⟩;have RD2:=ZZ rd;obtain⟨An2,cn2,rfl, -⟩:=rd.nodes.form;obtain⟨Ar2,cr2,rfl, -⟩:=rd.roots.form;obtain⟨Al2,cl2,rfl, -⟩:=hs.form;obtain⟨Y,hY,HBY⟩:=ZG Z2 (.slice An2 G'.nd.length cn2) (.slice Ar2 G'.rt.length cr2);have HY:=ZZ hY;have OXY:=ZZ (o.trans HBY.out.1);have OY:=ZZ (OX.out.trans OXY.out);have g0:Y.cell? ⟨Z.heap.size,0,none⟩=some (.slice An G.nd.length cn):=(HBX.out.2.keep OXY.out id).cell 0;have g1:Y.cell? ⟨Z.heap.size,1,none⟩=some (.slice Ar G.rt.length cr):=(HBX.out.2.keep OXY.out id).cell 1;have e0:Y.cell? ⟨Z2.heap.size,0,none⟩=some (.slice An2 G'.nd.length cn2):=HBY.out.2.cell 0;have e1:Y.cell? ⟨Z2.heap.size,1,none⟩=some (.slice Ar2 G'.rt.length cr2):=HBY.out.2.cell 1;clear rd hs o hY c0 c1 c2 c3 c4 c5 c6 c7 c8 c9
 go_upto_region 3 with fail
 rw[HY.out];by_cases hq0:q=0
 case neg=>
  have HF:=ZZ (HAN.out (.inl hq0));have hf:=HF.out;have h4:=HON.out hq0;subst h4;subst hf;clear g0 g1 e0 e1 hq0;go_wp2;go_ret;exact⟨rfl,OY.out⟩
 case pos=>
 by_cases hq1:q'=0
 case neg=>
  have HF:=ZZ (HAN.out (.inr hq1));have hf:=HF.out;have h0:=HOY.out hq0;have h4:=HPN.out hq1;subst h0;subst h4;subst hf;clear g0 g1 e0 e1 hq1 hq0;go_wp2;go_ret;exact⟨rfl,OY.out⟩
 case pos=>
  have HZ:=ZZ (HAY.out hq0 hq1);have h0:=HOY.out hq0;have h4:=HPY.out hq1;subst h0;subst h4;have RA:=ZZ ((RD.out.only (HBX.out.1.trans OXY.out) (Yj _)).more (HBX.out.1.trans OXY.out).size);have RB:=ZZ ((RD2.out.only HBY.out.1 (Yj _)).more HBY.out.1.size);have HMT:=ZZ (Zqv G G' _ _ _ _ js js2 Y.heap.size Y RA.out RB.out (Yj _) HFI.out.1 HFI.out.2 (by have:=HBD.out.1.1;omega) (by have:=HBD.out.1.2;omega) (by have:=HBD.out.2.1;omega) (by have:=HBD.out.2.2;omega));rw[← HZ.out] at HMT;clear hq0 hq1
  go_wp2_with fail
  go_at_call 43;refine HMT.out.mono ?_;rintro e w9 ⟨v9,rfl,h9,o9⟩;obtain⟨A9,k9,rfl, -, -⟩:=h9.form;have O9:=ZZ (OY.out.trans o9);clear h9 o9 g0 g1 e0 e1;go_wp2;go_ret;exact⟨rfl,O9.out⟩
structure LiC:Prop where
 lift:Ztf 8
 values:Zn4 10
 live:ZtW 12
 alike:Zm7 17
def AwL19:Prop:= ∀w:World,Par w→Calls Tryz.prog 7 #[] w fun e w'=>e=.returned (.bool true)∧Only nob w w'
theorem Zfx {s:St} (hok:StOk s) (hL:ZV s=false):Zcc s s=decide (Zal s=0):=by
 by_cases h:Zal s=0
 · rw[ZdX h h,ZmQ,Zub h hok (by have:=ZdM (ZaF.1 h) hL;omega),Ym h]
 · rw[Zdt (.inl h),Yl h]
theorem Zgc (CK:ZoL 19) (C:LiC) (AW:AwL19) (s t:St) (vw vt vf vs uw ut uf us:Value) (w:World) (h:Rd w w.heap.size s vw vt vf vs) (k:Rd w w.heap.size t uw ut uf us) (hok:Wide15 s) (hok':Wide15 t) (hpar:Par w):
 Calls Tryz.prog 4 #[.agg #[.int .i64 s.cf.semi,.int .i64 s.cf.large,.int .i64 s.cf.slots,.int .i64 s.cf.limit,.bool s.sec,vw,.int .i64 s.top,vt,vf,vs],.agg #[.int .i64 t.cf.semi,.int .i64 t.cf.large,.int .i64 t.cf.slots,.int .i64 t.cf.limit,.bool t.sec,uw,.int .i64 t.top,ut,uf,us]] w fun e w'=>e=.returned (.bool true)∧Below w.heap.size w w':=by
 obtain⟨V0,hV0,HB0⟩:=Zu w s vw vt vf vs;obtain⟨V,hV,HB⟩:=Zu V0 t uw ut uf us;have HV0:=ZZ hV0;have HV:=ZZ hV
 obtain⟨p,hp⟩: ∃p,p=w.heap.size:=⟨_,rfl⟩
 have hs0:V0.heap.size=p+1:=by rw[← hV0,hp];simp
 have SB:=ZZ (HB0.out.2.2.keep HB.out.1);rw[← hp] at SB;have TB:=ZZ HB.out.2.2;rw[hs0] at TB;have HP:=ZZ hp;have OV:=ZZ (HB0.out.1.trans HB.out.1);have HR:=ZZ h;have HT:=ZZ k;have HPAR:=ZZ hpar;have HLG:=ZZ (fun (W':World) (o:Only nob w W')=>ZrK s vw vt vf vs w.heap.size W' (h.only o (Yj _)));have HLG':=ZZ (fun (W':World) (o:Only nob w W')=>ZrK t uw ut uf us w.heap.size W' (k.only o (Yj _)));have HAW:=ZZ (show ∀W',Only nob w W'→Calls Tryz.prog 7 #[] W' fun e w'=>e=.returned (.bool true)∧Only nob W' w' from fun W' o=>AW W' (HPAR.out.old o));obtain⟨c0,c1,c2,c3,c4,c5,c6,c7,c8,c9⟩:=SB.out;clear hV0 hV hp hs0
 go_enter Tryz.func4,Tryz.ntmps4
 go_upto_region 1 with fail
 rw[HV0.out,HV.out, ← HP.out]
 go_wp2_with fail
 go_at_call 6;refine(HLG.out V OV.out).mono ?_
 cases hL:ZV s
 case true=>
  rintro e w1 ⟨rfl,o⟩;have O1:=ZZ (OV.out.trans o);clear o hL c0 c1 c2 c3 c4 c5 c6 c7 c8 c9 h k hok hok' hpar
  go_wp2_with fail
  go_at_call 7;refine(HAW.out _ O1.out).mono ?_;rintro e w9 ⟨rfl,o9⟩;have O9:=ZZ (O1.out.trans o9);clear o9;go_wp2;go_ret;exact⟨rfl,O9.out.whole⟩
 case false=>
 rintro e w1 ⟨rfl,o⟩;have O1:=ZZ (OV.out.trans o);have TX:=ZZ (TB.out.keep o);have SX:=ZZ (SB.out.keep o);clear o c0 c1 c2 c3 c4 c5 c6 c7 c8 c9;obtain⟨c0,c1,c2,c3,c4,c5,c6,c7,c8,c9⟩:=TX.out
 go_wp2_with fail
 go_at_call 6;refine(HLG'.out w1 O1.out).mono ?_
 cases hL':ZV t
 case true=>
  rintro e w2 ⟨rfl,o⟩;have O2:=ZZ (O1.out.trans o);clear o hL hL' c0 c1 c2 c3 c4 c5 c6 c7 c8 c9 h k hok hok' hpar
  go_wp2_with fail
  go_at_call 7;refine(HAW.out _ O2.out).mono ?_;rintro e w9 ⟨rfl,o9⟩;have O9:=ZZ (O2.out.trans o9);clear o9;go_wp2;go_ret;exact⟨rfl,O9.out.whole⟩
 case false=>
 rintro e w2 ⟨rfl,o⟩;have O2:=ZZ (O1.out.trans o);have TX:=ZZ (TX.out.keep o);have SX:=ZZ (SX.out.keep o);have HOK:=ZZ (hok.ok hL);have HOK':=ZZ (hok'.ok hL');have HL:=ZZ hL;have HL':=ZZ hL';have HK:=ZZ (show ∀W',Only nob w2 W'→Rd W' w.heap.size s vw vt vf vs∧Rd W' w.heap.size t uw ut uf us∧w.heap.size≤W'.heap.size∧Par W' from fun W' o=>⟨HR.out.only (O2.out.trans o) (Yj _),HT.out.only (O2.out.trans o) (Yj _),(O2.out.trans o).size,HPAR.out.old (O2.out.trans o)⟩);have HAB:=ZZ (fun (W':World) (o:Only nob w2 W')=>C.alike s t vw vt vf vs uw ut uf us _ W' (HK.out W' o).1 (HK.out W' o).2.1 (HK.out W' o).2.2.1 HOK.out HOK'.out (HK.out W' o).2.2.2 HL.out HL'.out);have HRB:=ZZ (fun (W':World) (o:Only nob w2 W')=>Zqn s t vw vt vf vs uw ut uf us _ W' (HK.out W' o).1 (HK.out W' o).2.1 (HK.out W' o).2.2.1 HOK.out HOK'.out (HK.out W' o).2.2.2 HL.out HL'.out);have HAA:=ZZ (fun (W':World) (o:Only nob w2 W')=>C.alike s s vw vt vf vs vw vt vf vs _ W' (HK.out W' o).1 (HK.out W' o).1 (HK.out W' o).2.2.1 HOK.out HOK.out (HK.out W' o).2.2.2 HL.out HL.out);have HCK:=ZZ (fun (W':World) (o:Only nob w2 W')=>CK s vw vt vf vs _ W' (HK.out W' o).1 (HK.out W' o).2.2.1 HOK.out (HK.out W' o).2.2.2);have HA2:=ZZ (fun (W':World) (o:Only nob w2 W')=>HAW.out W' (O2.out.trans o));have HSELF:=ZZ (Zfx (hok.ok hL) hL)
 obtain⟨z,hz⟩: ∃z,z=Zcc s t:=⟨_,rfl⟩
 obtain⟨r,hr⟩: ∃z,z=Zcc s s:=⟨_,rfl⟩
 obtain⟨q,hq⟩: ∃z,z=Zal s:=⟨_,rfl⟩
 rw[← hz] at HAB HRB;rw[← hr] at HAA HSELF;rw[← hq] at HCK HSELF;have HSC:=ZZ (show ∀w':World,Only nob w2 w'→w'.cell? ⟨p,0,none⟩=some (.int .i64 s.cf.semi)∧w'.cell? ⟨p,1,none⟩=some (.int .i64 s.cf.large)∧w'.cell? ⟨p,2,none⟩=some (.int .i64 s.cf.slots)∧w'.cell? ⟨p,3,none⟩=some (.int .i64 s.cf.limit)∧w'.cell? ⟨p,4,none⟩=some (.bool s.sec)∧w'.cell? ⟨p,5,none⟩=some (vw)∧w'.cell? ⟨p,6,none⟩=some (.int .i64 s.top)∧w'.cell? ⟨p,7,none⟩=some (vt)∧w'.cell? ⟨p,8,none⟩=some (vf)∧w'.cell? ⟨p,9,none⟩=some (vs)∧w'.cell? ⟨p+1,0,none⟩=some (.int .i64 t.cf.semi)∧w'.cell? ⟨p+1,1,none⟩=some (.int .i64 t.cf.large)∧w'.cell? ⟨p+1,2,none⟩=some (.int .i64 t.cf.slots)∧w'.cell? ⟨p+1,3,none⟩=some (.int .i64 t.cf.limit)∧w'.cell? ⟨p+1,4,none⟩=some (.bool t.sec)∧w'.cell? ⟨p+1,5,none⟩=some (uw)∧w'.cell? ⟨p+1,6,none⟩=some (.int .i64 t.top)∧w'.cell? ⟨p+1,7,none⟩=some (ut)∧w'.cell? ⟨p+1,8,none⟩=some (uf)∧w'.cell? ⟨p+1,9,none⟩=some (us) from fun w' o=>⟨(SX.out.keep o).c0,(SX.out.keep o).c1,(SX.out.keep o).c2,(SX.out.keep o).c3,(SX.out.keep o).c4,(SX.out.keep o).c5,(SX.out.keep o).c6,(SX.out.keep o).c7,(SX.out.keep o).c8,(SX.out.keep o).c9,(TX.out.keep o).c0,(TX.out.keep o).c1,(TX.out.keep o).c2,(TX.out.keep o).c3,(TX.out.keep o).c4,(TX.out.keep o).c5,(TX.out.keep o).c6,(TX.out.keep o).c7,(TX.out.keep o).c8,(TX.out.keep o).c9⟩);clear o c0 c1 c2 c3 c4 c5 c6 c7 c8 c9 h k hok hok' hpar hL hL' hz hr hq;have OC:=ZZ (show Only nob w2 w2.drew from(Only.refl nob w2).drewN 1);have mixed:=ZbV;obtain⟨x0,x1,x2,x3,x4,x5,x6,x7,x8,x9,y0,y1,y2,y3,y4,y5,y6,y7,y8,y9⟩:=HSC.out w2 (Only.refl nob w2)
 go_upto_region 3 with fail
 by_cases hq0:q=0
 case pos=>
  have hr:=HSELF.out;rw[Ym hq0] at hr;subst hr;subst hq0
  cases z <;>
   (go_region_held3 (fun w':World=>w'.cell? ⟨p,0,none⟩=some (.int .i64 s.cf.semi)∧w'.cell? ⟨p,1,none⟩=some (.int .i64 s.cf.large)∧w'.cell? ⟨p,2,none⟩=some (.int .i64 s.cf.slots)∧w'.cell? ⟨p,3,none⟩=some (.int .i64 s.cf.limit)∧w'.cell? ⟨p,4,none⟩=some (.bool s.sec)∧w'.cell? ⟨p,5,none⟩=some (vw)∧w'.cell? ⟨p,6,none⟩=some (.int .i64 s.top)∧w'.cell? ⟨p,7,none⟩=some (vt)∧w'.cell? ⟨p,8,none⟩=some (vf)∧w'.cell? ⟨p,9,none⟩=some (vs)∧w'.cell? ⟨p+1,0,none⟩=some (.int .i64 t.cf.semi)∧w'.cell? ⟨p+1,1,none⟩=some (.int .i64 t.cf.large)∧w'.cell? ⟨p+1,2,none⟩=some (.int .i64 t.cf.slots)∧w'.cell? ⟨p+1,3,none⟩=some (.int .i64 t.cf.limit)∧w'.cell? ⟨p+1,4,none⟩=some (.bool t.sec)∧w'.cell? ⟨p+1,5,none⟩=some (uw)∧w'.cell? ⟨p+1,6,none⟩=some (.int .i64 t.top)∧w'.cell? ⟨p+1,7,none⟩=some (ut)∧w'.cell? ⟨p+1,8,none⟩=some (uf)∧w'.cell? ⟨p+1,9,none⟩=some (us)) (first|(with_reducible exact HSC.out _ OC.out)|go_keep)
     (first
       |(go_at_call 17
         first
         |(with_reducible refine(HAB.out _ OC.out).mono ?_
           rintro e wt ⟨rfl,o⟩;have OC:=ZZ (OC.out.trans o)
           clear o)
         |(with_reducible refine(HAA.out _ OC.out).mono ?_
           rintro e wt ⟨rfl,o⟩;have OC:=ZZ (OC.out.trans o)
           clear o))
       |(go_at_call 18
         with_reducible refine(HRB.out _ OC.out).mono ?_
         rintro e wt ⟨rfl,o⟩;have OC:=ZZ (OC.out.trans o)
         clear o)
       |(go_at_call 19
         with_reducible refine(HCK.out _ OC.out).mono ?_
         rintro e wt ⟨rfl,o⟩;have OC:=ZZ (OC.out.trans o)
         clear o)
       |(go_at_call 7
         with_reducible refine(HA2.out _ OC.out).mono ?_
         rintro e wt ⟨rfl,o⟩;have OC:=ZZ (OC.out.trans o)
         clear o))
    all_goals (go_wp2;go_ret;exact⟨rfl,(O2.out.trans OC.out).whole⟩))
 case neg=>
  have hr:=HSELF.out;rw[Yl hq0] at hr;subst hr
  have hbq:(q==0)=false:=by simpa using hq0
  clear hq0
  cases z <;>
   (go_region_held3 (fun w':World=>w'.cell? ⟨p,0,none⟩=some (.int .i64 s.cf.semi)∧w'.cell? ⟨p,1,none⟩=some (.int .i64 s.cf.large)∧w'.cell? ⟨p,2,none⟩=some (.int .i64 s.cf.slots)∧w'.cell? ⟨p,3,none⟩=some (.int .i64 s.cf.limit)∧w'.cell? ⟨p,4,none⟩=some (.bool s.sec)∧w'.cell? ⟨p,5,none⟩=some (vw)∧w'.cell? ⟨p,6,none⟩=some (.int .i64 s.top)∧w'.cell? ⟨p,7,none⟩=some (vt)∧w'.cell? ⟨p,8,none⟩=some (vf)∧w'.cell? ⟨p,9,none⟩=some (vs)∧w'.cell? ⟨p+1,0,none⟩=some (.int .i64 t.cf.semi)∧w'.cell? ⟨p+1,1,none⟩=some (.int .i64 t.cf.large)∧w'.cell? ⟨p+1,2,none⟩=some (.int .i64 t.cf.slots)∧w'.cell? ⟨p+1,3,none⟩=some (.int .i64 t.cf.limit)∧w'.cell? ⟨p+1,4,none⟩=some (.bool t.sec)∧w'.cell? ⟨p+1,5,none⟩=some (uw)∧w'.cell? ⟨p+1,6,none⟩=some (.int .i64 t.top)∧w'.cell? ⟨p+1,7,none⟩=some (ut)∧w'.cell? ⟨p+1,8,none⟩=some (uf)∧w'.cell? ⟨p+1,9,none⟩=some (us)) (first|(with_reducible exact HSC.out _ OC.out)|go_keep)
     (first
       |(go_at_call 17
         first
         |(with_reducible refine(HAB.out _ OC.out).mono ?_
           rintro e wt ⟨rfl,o⟩;have OC:=ZZ (OC.out.trans o)
           clear o)
         |(with_reducible refine(HAA.out _ OC.out).mono ?_
           rintro e wt ⟨rfl,o⟩;have OC:=ZZ (OC.out.trans o)
           clear o))
       |(go_at_call 18
         with_reducible refine(HRB.out _ OC.out).mono ?_
         rintro e wt ⟨rfl,o⟩;have OC:=ZZ (OC.out.trans o)
         clear o)
       |(go_at_call 19
         with_reducible refine(HCK.out _ OC.out).mono ?_
         rintro e wt ⟨rfl,o⟩;have OC:=ZZ (OC.out.trans o)
         clear o)
       |(go_at_call 7
         with_reducible refine(HA2.out _ OC.out).mono ?_
         rintro e wt ⟨rfl,o⟩;have OC:=ZZ (OC.out.trans o)
         clear o))
    all_goals (go_wp2;go_ret;exact⟨rfl,(O2.out.trans OC.out).whole⟩))
end
section
open Go.RowKit
def lC:Cf:=⟨4,0,2,3⟩
theorem Zga:lC.ok:=by unfold Cf.ok lC;simp
theorem Zo5:CFit lC:=by constructor <;> (unfold I64 lC;simp)
def lS:St:=⟨lC,false,[259,2,0,0,0,0,0,0],2,[],[],[(false,0,0),(true,0,2)]⟩
def lT:St:={lS with top:=1}
theorem ZrE:ZtD lC=⟨lC,false,List.replicate 8 0,0,[],[],[(false,0,0),(false,0,0)]⟩:=by
 rw[Zjq Zga];unfold Zs;rw[if_pos Zga];unfold lC;simp
theorem lW8:(Zs lC).toNat=8:=by
 unfold Zs;rw[if_pos Zga];rfl
theorem Zt9:ZR lC false=(0,4):=by
 rw[Zfp Zga];rfl
theorem ZrT:lS.frm=(0,4):=Zt9
theorem ZrM:lT.frm=(0,4):=Zt9
theorem Zrz:((lS.ws.length:Nat):Int)=Zs lC:=by
 unfold Zs;rw[if_pos Zga];rfl
theorem Zvm {s:St} (h1:s.frm=(0,4)) (h2:s.top=1∨s.top=2):r3 s=true:=by
 unfold r3;rw[h1]
 rcases h2 with h2|h2 <;> rw[h2] <;> decide
theorem Zgy:(hAr lS.ws 0).e=0∧osz (hAr lS.ws) 0=2:=by decide
theorem Zr9:Zal lT=4:=by
 refine ZoV Zga Zrz (Zvm ZrM (.inl rfl)) fun h0=>?_;have hok:=Zg9 h0
 have hs:lT.steps=tr (hAr lS.ws) 1 0:=by
  unfold St.steps ZH;rw[ZrM];exact if_pos (by unfold may9 Sp.ok most lT;simp)
 rw[hs] at hok
 have hsw:swE (hAr lS.ws) 1 0≠0:=by rw[Zru Zgy.1 (by rw[Zgy.2];decide)];decide
 rw[Zel (by decide) hsw] at hok
 have:=hok _ (Yt.2 rfl)
 rw[Zcd] at this;exact hsw this
theorem Zus:swE (hAr lS.ws) 2 0=0:=Zuq Zgy.1 (by rw[Zgy.2];decide)
theorem Zld:lS.steps=[item (hAr lS.ws) 2 0]:=by
 have hs:lS.steps=tr (hAr lS.ws) 2 0:=by
  unfold St.steps ZH;rw[ZrT];exact if_pos (by unfold may9 Sp.ok most lS;simp)
 rw[hs,ZiI (ZbB _) (by decide) Zus,Zgy.2,Zeh (by decide)]
theorem Zkf:wkE lS.steps=0∧lS.smalls=[0]:=by
 have hok: ∀y∈lS.steps,y.e=0:=by
  intro y hy;rw[Zld,Yt] at hy;rw[hy,Zcd];exact Zus
 obtain⟨-,h2,h3⟩:=Zo2 hok lS.top;refine⟨h2,?_⟩;unfold St.smalls;rw[h3,Zld];simp[ats,ZaW]
theorem ZhS:lS.objs=[0]:=by
 unfold St.objs;rw[Zkf.2];rfl
theorem ZsN:Zah (Zo lC) [] []:=by
 have h:=(ZsW Zga).big;rw[ZrE] at h;unfold r6 at h;rw[Bool.and_eq_true,decide_eq_true_iff] at h;exact h.1
theorem ZtY:May15 lS where
 ok:=Zga
 many:=Zrz
 top:=Zvm ZrT (.inr rfl)
 walk:=Zkf.1
 low:=by
  unfold r5;rw[Zkf.2];show(low lC lS.ws 0&&true)=true;unfold low ZaC;rw[Zgy.2,Ym Zga];decide
 big:=by
  unfold r6;rw[Bool.and_eq_true,decide_eq_true_iff];exact⟨ZsN,rfl⟩
 slots:=by show ZbR dE [(false,0,0),(true,0,2)] 2=true;decide
 fields:=by
  unfold r8;rw[ZhS];decide
 leads:=by
  unfold r9;rw[ZhS];decide
theorem ZiJ:Zal lS=0:=ZaF.2 ZtY
def lG:Gr:=⟨[⟨0,[(2,0)],[]⟩],[(2,0)]⟩
theorem ZkQ:liG lS=lG:=by
 rw[Zdi ZiJ,ZhS]
 have h1:ohK lS.ws 0=0∧ohF lS.ws 0=1∧ohR lS.ws 0=0:=by decide
 have h2:ZcH [0] 2=(2,0):=by decide
 have h3:liN [0] lS.ws 0=⟨0,[(2,0)],[]⟩:=by
  unfold liN Zlz Zm2;rw[h1.1,h1.2.1,h1.2.2];show(⟨0,[ZcH [0] 2],[]⟩:Nd)=_;rw[h2]
 have h4:Zen [0] lS.sl=[(2,0)]:=by
  show[ZcH [0] 2]=_;rw[h2]
 show(⟨[liN [0] lS.ws 0],Zen [0] lS.sl⟩:Gr)=_;rw[h3,h4];rfl
theorem Ztb:liV lS=[(2,0)]:=by
 unfold liV;rw[if_pos ZiJ];show[Zrn 2]=_;decide
theorem Zhf:lvN lS=1∧lvA lS=2∧lvB lS=0∧lvF lS=1:=by
 obtain⟨h1,h2,h3,h4⟩:=ZrL ZiJ;rw[h1,h2,h3,h4,ZkQ];show(((Zcf lG).length:Nat):Int)=1∧Zjg lG (Zad lG 3 0 1)=2∧Zjg lG (Zao lG 3 0 1)=0∧wrap64 (Zj8 lG (Zad lG 3 0 1)+Zj8 lG (Zao lG 3 0 1))=1;decide+kernel
theorem ZeW:obE lS=0∧obL lS=[0]:=by
 obtain⟨h1,h2⟩:=Zbv ZiJ;exact⟨h1,h2.trans ZhS⟩
theorem Zqw:obE lT=4:=(ZcA (s:=lT) (by rw[Zr9];decide)).1
theorem ZpD:StOk lS∧StOk lT:=by
 have w:Za1 lS.ws:=by unfold Za1;decide
 have e0:Zrh []:=fun _ h=>by cases h
 have s1:Zom [(false,0,0),(true,0,2)]:=fun x hx=>by
  simp at hx;rcases hx with rfl|rfl
  · exact⟨by simp,by simp,by decide⟩
  · exact⟨by simp,by simp,by decide⟩
 exact⟨⟨Zo5,w,by unfold I64 lS;simp,e0,e0,s1,by unfold lS;simp⟩,⟨Zo5,w,by unfold I64 lT lS;simp,e0,e0,s1,by unfold lT lS;simp⟩⟩
theorem ZbX:ZV lS=false∧ZV lT=false:=by decide
theorem ZoU:Zcc lS lS=true∧Zcc lS lT=false:=by
 refine⟨?_,Zdt (.inr (by rw[Zr9];decide))⟩;rw[Zfx ZpD.1 ZbX.1,ZiJ];rfl
end
end Go.Proofs.YteieocddfnlmdaaGreatDoor
