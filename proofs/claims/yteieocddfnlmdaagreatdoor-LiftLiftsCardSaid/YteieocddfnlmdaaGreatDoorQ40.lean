/- The document's own answer for layer 19: values, what is met, The laws of chapter 19: walked, over what package lift is as The heaps of chapter 19's example: they may be, or not; thei -/
import Derived.Test.YteieocddfnlmdaaGreatDoorQ39
import Derived.Test.YteieocddfnlmdaaGreatDoorQ23
set_option maxRecDepth 100000
set_option maxHeartbeats 32000000
set_option linter.unusedSimpArgs false
set_option linter.unusedVariables false
namespace Go.Proofs.YteieocddfnlmdaaGreatDoor
section
open Go.RowKit Go.Lib
def Zmv (l:List Slt):List Sp:=(ZfK l).map fun t=>Zmc t.2.2
def Zju (f:FuncId):Prop:= ∀(s:St) (vw vt vf vs:Value) (B:Nat) (w:World),Rd w B s vw vt vf vs→B≤w.heap.size→StOk s→Par w→Zaa s=false→
 Calls Tryz.prog f #[.agg #[.int .i64 s.cf.semi,.int .i64 s.cf.large,.int .i64 s.cf.slots,.int .i64 s.cf.limit,.bool s.sec,vw,.int .i64 s.top,vt,vf,vs]] w fun e w'=> ∃v,e=.returned (.tuple #[v,.int .i64 (obE s)])∧Sl w' w'.heap.size 2 v (liV s).length (spc (liV s))∧Only nob w w'
noncomputable def lvN (s:St):Int:=if Zar s=0 then((Zbn (liG s)).length:Int) else 0
noncomputable def lvA (s:St):Int:=if Zar s=0 then Zd0 (liG s) (ZF (liG s) s.cf.limit 0 1) else 0
noncomputable def lvB (s:St):Int:=if Zar s=0 then Zd0 (liG s) (ZJ (liG s) s.cf.limit 0 1) else 0
noncomputable def lvF (s:St):Int:=if Zar s=0 then wrap64 (Zd2 (liG s) (ZF (liG s) s.cf.limit 0 1)+Zd2 (liG s) (ZJ (liG s) s.cf.limit 0 1)) else 0
def Zs1 (f:FuncId):Prop:= ∀(s:St) (vw vt vf vs:Value) (B:Nat) (w:World),Rd w B s vw vt vf vs→B≤w.heap.size→StOk s→Par w→Zaa s=false→
 Calls Tryz.prog f #[.agg #[.int .i64 s.cf.semi,.int .i64 s.cf.large,.int .i64 s.cf.slots,.int .i64 s.cf.limit,.bool s.sec,vw,.int .i64 s.top,vt,vf,vs]] w fun e w'=>e=.returned (.tuple #[.int .i64 (lvN s),.int .i64 (lvA s),.int .i64 (lvB s),.int .i64 (lvF s),.int .i64 (obE s)])∧Only nob w w'
noncomputable def ZdB (a b:St):Bool:=decide (Zar a=0)&&(decide (Zar b=0)&&Zcr (liG a) (liG b))
def Zsk (f:FuncId):Prop:= ∀(s t:St) (vw vt vf vs uw ut uf us:Value) (B:Nat) (w:World),Rd w B s vw vt vf vs→Rd w B t uw ut uf us→B≤w.heap.size→StOk s→StOk t→Par w→Zaa s=false→Zaa t=false→
 Calls Tryz.prog f #[.agg #[.int .i64 s.cf.semi,.int .i64 s.cf.large,.int .i64 s.cf.slots,.int .i64 s.cf.limit,.bool s.sec,vw,.int .i64 s.top,vt,vf,vs],.agg #[.int .i64 t.cf.semi,.int .i64 t.cf.large,.int .i64 t.cf.slots,.int .i64 t.cf.limit,.bool t.sec,uw,.int .i64 t.top,ut,uf,us]] w fun e w'=>e=.returned (.bool (ZdB s t))∧Only nob w w'
theorem ZlT {l:List Slt} {i:Nat} {t:Slt} (ht:l[i]? =some t):Zmv (l.take (i+1))=Zmv (l.take i)++(if t.1=true then[Zmc t.2.2] else[]):=by
 rw[Z8 ht];unfold Zmv ZfK;obtain⟨b,x,y⟩:=t
 cases b <;> simp
theorem Zoi:Zju 11:=by
 intro s vw vt vf vs B w h hB hok hpar hL;obtain⟨j0,hj0,hjz0,hjz1,hjz2⟩:=info_parts Zc3;obtain⟨Al,cl,rfl,hal,hcl⟩:=h.slots.form;unfold maxLen at hcl;have hfew:=(ZdX hL).2.2.2;obtain⟨V,hV,HB⟩:=Zz w s vw vt vf (.slice Al s.sl.length cl);have HVE:=ZZ hV
 obtain⟨sb,hsb⟩: ∃p,p=w.heap.size:=⟨_,rfl⟩
 have SB:=ZZ HB.out.2.2;rw[← hsb] at SB;have HSB:=ZZ hsb;have OV:=ZZ HB.out.1;have HR:=ZZ h;have HOK:=ZZ hok;have HBB:=ZZ hB;have HCK:=ZZ (ZkQ s _ _ _ _ B V (h.only OV.out hB) (Yi hB OV.out.size) hok (hpar.old OV.out))
 obtain⟨q,hq⟩: ∃q,q=Zar s:=⟨_,rfl⟩
 have HY:=ZZ (show q=0→obE s=0∧liV s=Zmv s.sl from fun e=>⟨(Zbu (hq.symm.trans e)).1,if_pos (hq.symm.trans e)⟩);have HN:=ZZ (show ¬q=0→obE s=4∧liV s=[] from fun e=>⟨(Zcl (fun h=>e (hq.trans h))).1,if_neg (fun h=>e (hq.trans h))⟩);rw[← hq] at HCK
 obtain⟨E,hE⟩: ∃E,E=obE s:=⟨_,rfl⟩
 obtain⟨M,hM⟩: ∃E,E=liV s:=⟨_,rfl⟩
 rw[← hE, ← hM] at HY HN ⊢;obtain⟨c0,c1,c2,c3,c4,c5,c6,c7,c8,c9⟩:=SB.out;clear hV h hB hok hpar hL hq hE hM hsb
 go_enter Tryz.func11,Tryz.ntmps11
 go_upto_region 1 with fail
 rw[HVE.out, ← HSB.out]
 go_wp2_with fail
 go_at_call 35;refine HCK.out.mono ?_;rintro e Z ⟨rfl,o⟩;have OZ:=ZZ (OV.out.trans o);have SZ:=ZZ (SB.out.keep o);clear o c0 c1 c2 c3 c4 c5 c6 c7 c8 c9;by_cases hq0:q=0
 case neg=>
  have hbq:(q !=0)=true:=by simpa using hq0
  have HN2:=ZZ (HN.out hq0);clear hq0;go_wp2;go_ret2;exact⟨.slice none 0 0,by rw[HN2.out.1];rfl,by rw[HN2.out.2];exact Sl.nil_,OZ.out⟩
 case pos=>
 have HY2:=ZZ (HY.out hq0);subst hq0
 go_wp2_with fail
 go_loopw [4,5,6,7] (fun out vi _ _ wr=> ∃(i m:Nat) (Ar:Option Addr) (cr:Nat),i≤s.sl.length∧vi=.int .i64 i∧m≤i∧out=.slice Ar m cr∧Hid (m=(Zmv (s.sl.take i)).length)∧Hid (wr.ownsRow Z.heap.size 63 2 (.slice Ar m cr) m (spc (Zmv (s.sl.take i))))∧Hid (Only nob Z wr)) (fun _ vi _ _ _=>s.sl.length - (RowKit.intOf vi).toNat)
 case atStart=>exact⟨0,0,none,0,Yu _,rfl,Yj _,rfl,ZZ rfl,ZZ (World.ownsRow_nil _ _ _ _),ZZ (Only.refl _ _)⟩
 case round=>
 obtain⟨i,m,Ar,cr,hi,rfl,hmi,rfl,HM,HRO,HO⟩:=hrel;have c9:=(SZ.out.keep HO.out).c9;by_cases hilt:i<s.sl.length
 case pos=>
  obtain⟨t,ht⟩: ∃t,s.sl[i]? =some t:=⟨_,Ya hilt⟩
  obtain⟨bl,ol,hAl,hbl,t0, -,t2⟩:=ZcE HR.out.slots ((OZ.out.trans HO.out).below HBB.out fun _ h=>h.elim) ht;subst hAl;have HT:=ZZ (ZlT ht);have hwl:t.2.2<18446744073709551616:=(HOK.out.sl t (Yo ht)).2.2;obtain⟨ub,uh,y⟩:=t;simp only at t0 t2 hwl HT;clear ht
  cases ub with
  |false=>
   have HS:=ZZ (show Zmv (s.sl.take (i+1))=Zmv (s.sl.take i) by have:=HT.out;simpa using this);clear t2
   go_wp2_with fail
   clear t0 c9
   go_roundw
   case rel=>exact⟨i+1,m,Ar,cr,by omega,by go_num,by omega,rfl,ZZ (by rw[HS.out];exact HM.out),ZZ (by rw[HS.out];exact HRO.out),HO⟩
   case measure=>simp[RowKit.intOf];omega
  |true=>
   have HS:=ZZ (show Zmv (s.sl.take (i+1))=Zmv (s.sl.take i)++[Zmc y] by have:=HT.out;simpa using this);have HD:=ZZ (Zc4 (n:=(y:Int)) ⟨by omega,by omega⟩ wr)
   obtain⟨K,hK⟩: ∃K:Int,K=dK y:=⟨_,rfl⟩
   obtain⟨X,hX⟩: ∃X:Int,X=dX y:=⟨_,rfl⟩
   obtain⟨E,hE⟩: ∃E:Int,E=dE y:=⟨_,rfl⟩
   have HRV:=ZZ (show Zmc y=(K,X) by rw[hK,hX];rfl);rw[← hK, ← hX, ← hE] at HD;clear hK hX hE
   go_wp2_with fail
   go_at_call 36;refine HD.out.mono ?_;rintro e w2 ⟨rfl,o2⟩;obtain⟨X2,hX2,HB2⟩:=Zae w2 K X;have HX2:=ZZ hX2;have O2:=ZZ (HO.out.trans (o2.trans HB2.out.1));have HR2:=ZZ (Za (Za HRO.out o2 fun _ _=>id) HB2.out.1 fun _ _=>id);have d0:X2.cell? ⟨w2.heap.size,0,none⟩=some (.int .i64 K):=HB2.out.2.cell 0;have d1:X2.cell? ⟨w2.heap.size,1,none⟩=some (.int .i64 X):=HB2.out.2.cell 1;clear t0 t2 c9 hX2 o2
   go_upto_region 9 with fail
   rw[HX2.out];obtain⟨X3,hX3,HB3⟩:=Zae X2 K X;have HX3:=ZZ hX3;have O3:=ZZ (O2.out.trans HB3.out.1);have HR3:=ZZ (Za HR2.out HB3.out.1 fun _ _=>id);clear hX3
   go_wp2_with (first|(with_reducible rw[HX3.out])|(with_reducible refine Ze (o:=⟨some 37,_,_,_,_,_⟩) _ rfl (.tmp 34) (.tmp 36) _ rfl Z.heap.size 63 j0 _ 2 16 Tryz.underlying32 hj0 hjz0 hjz1 hjz2 rfl (by decide) (.slice Ar m cr) m (spc (Zmv (s.sl.take i))) rfl HR3.out (X2.heap.size+1) (.slice (some ⟨X2.heap.size,0,none⟩) 1 1) 1 (spc [(K,X)]) rfl ?c6 (ZdF _) ?c2 ?c3 ?c4 ?c5))
   case c6=>rw[← HX3.out];exact ZfW X2 _ _
   case c2=>unfold maxLen;omega
   case c3=>omega
   case c4=>have:=O3.out.size;omega
   case c5=>
    intro v6 X6 H6 o6 _;obtain⟨A6,c6,rfl, -⟩:=Zi H6.out;have O6:=ZZ (Zaq O3.out HR3.out o6 (Yj _));have HF6:=ZZ (show X6.ownsRow Z.heap.size 63 2 (.slice A6 (m+1) c6) (m+1) (spc (Zmv (s.sl.take (i+1)))) by rw[HS.out,HRV.out,ZfI];exact H6.out);have HM7:=ZZ (show m+1=(Zmv (s.sl.take (i+1))).length by rw[HS.out,Ys, ← HM.out];rfl);clear H6 o6 d0 d1;go_wp2
    go_roundw
    case rel=>exact⟨i+1,m+1,A6,c6,by omega,by go_num,by omega,rfl,HM7,HF6,O6⟩
    case measure=>simp[RowKit.intOf];omega
 case neg=>
  obtain rfl:i=s.sl.length:=by omega
  have HRF:=ZZ (show wr.ownsRow Z.heap.size 63 2 (.slice Ar m cr) M.length (spc M) by have h1:=HRO.out;have h2:=HM.out;rw[List.take_length] at h1 h2;rw[HY2.out.2, ← h2];exact h1);have O9:=ZZ (OZ.out.trans HO.out);go_wp2;go_ret2;exact⟨_,by rw[HY2.out.1];rfl,Sl.of_own HRF.out HRF.out.1,O9.out⟩
theorem ZnJ {s:St} (h:Zar s=0):lvN s=((Zbn (liG s)).length:Int)∧lvA s=Zd0 (liG s) (ZF (liG s) s.cf.limit 0 1)∧lvB s=Zd0 (liG s) (ZJ (liG s) s.cf.limit 0 1)∧lvF s=wrap64 (Zd2 (liG s) (ZF (liG s) s.cf.limit 0 1)+Zd2 (liG s) (ZJ (liG s) s.cf.limit 0 1)):=
 ⟨if_pos h,if_pos h,if_pos h,if_pos h⟩
theorem Zux {s:St} (h: ¬Zar s=0):lvN s=0∧lvA s=0∧lvB s=0∧lvF s=0:=⟨if_neg h,if_neg h,if_neg h,if_neg h⟩
theorem Zgv {s t:St} (h:Zar s=0) (k:Zar t=0):ZdB s t=Zcr (liG s) (liG t):=by unfold ZdB;rw[Ym h,Ym k];rfl
theorem Zfw {s t:St} (h: ¬Zar s=0∨ ¬Zar t=0):ZdB s t=false:=by
 unfold ZdB;rcases h with h|h
 · rw[Yl h];rfl
 · rw[Yl h];simp
theorem ZsU:Zs1 13:=by
 intro s vw vt vf vs B w h hB hok hpar hL;obtain⟨V,hV,HB⟩:=Zz w s vw vt vf vs;have HVE:=ZZ hV
 obtain⟨sb,hsb⟩: ∃p,p=w.heap.size:=⟨_,rfl⟩
 have SB:=ZZ HB.out.2.2;rw[← hsb] at SB;have HSB:=ZZ hsb;have OV:=ZZ HB.out.1;have HLF:=ZZ (ZoG s _ _ _ _ B V (h.only OV.out hB) (Yi hB OV.out.size) hok (hpar.old OV.out) hL);have HFIT:=ZZ (liG_fit hok hL);have HBD:=ZZ (liG_bd hL);have HLY:=ZZ (ZnJ (s:=s));have HLN:=ZZ (Zux (s:=s));have HOY:=ZZ (fun e=>(Zbu (s:=s) e).1);have HON:=ZZ (fun e=>(Zcl (s:=s) e).1);obtain⟨c0,c1,c2,c3,c4,c5,c6,c7,c8,c9⟩:=SB.out
 obtain⟨q,hq⟩: ∃q,q=Zar s:=⟨_,rfl⟩
 obtain⟨E,hE⟩: ∃E,E=obE s:=⟨_,rfl⟩
 obtain⟨G,hG⟩: ∃E,E=liG s:=⟨_,rfl⟩
 obtain⟨lim,hlim⟩: ∃E,E=s.cf.limit:=⟨_,rfl⟩
 have HLIM:=ZZ hlim;rw[← hq, ← hE] at HOY HON;rw[← hq, ← hG, ← hlim] at HLY;rw[← hq] at HLN;rw[← hE, ← hG] at HLF;rw[← hG] at HFIT HBD;rw[← hE];clear hV h hB hok hpar hL hq hE hG hlim hsb
 go_enter Tryz.func13,Tryz.ntmps13
 go_upto_region 1 with fail
 rw[HVE.out, ← HSB.out]
 go_wp2_with fail
 go_at_call 9;refine HLF.out.mono ?_;rintro e Z ⟨un,ur,js,v,rfl,rd,hs,o⟩;have RD:=ZZ rd;obtain⟨An,cn,rfl, -⟩:=rd.nodes.form;obtain⟨Ar,cr,rfl, -⟩:=rd.roots.form;obtain⟨Al,cl,rfl, -⟩:=hs.form;obtain⟨X,hX,HBX⟩:=ZG Z (.slice An G.nd.length cn) (.slice Ar G.rt.length cr);have HX:=ZZ hX;have OX:=ZZ (o.trans HBX.out.1);have g0:X.cell? ⟨Z.heap.size,0,none⟩=some (.slice An G.nd.length cn):=HBX.out.2.cell 0;have g1:X.cell? ⟨Z.heap.size,1,none⟩=some (.slice Ar G.rt.length cr):=HBX.out.2.cell 1;clear rd hs o hX c0 c1 c2 c3 c4 c5 c6 c7 c8 c9
 go_upto_region 2 with fail
 rw[HX.out];by_cases hq0:q=0
 case neg=>
  have HE4:=ZZ (HON.out hq0);have h4:=HE4.out;subst h4;have HZ:=ZZ (HLN.out hq0);have OE:=ZZ (OV.out.trans OX.out);clear g0 g1 hq0;go_wp2;exact bodyPost_ret (v:=.tuple #[.int .i64 0,.int .i64 0,.int .i64 0,.int .i64 0,.int .i64 4]) (by simp[results,Tryz.results13,go_sem]) rfl ⟨by rw[HZ.out.1,HZ.out.2.1,HZ.out.2.2.1,HZ.out.2.2.2],OE.out⟩
 case pos=>
  have h0:=HOY.out hq0;subst h0;have HY:=ZZ (HLY.out hq0);have R1:=ZZ (RD.out.only HBX.out.1 (Yj _));have HRC:=ZZ (ZqE G _ _ js Z.heap.size X R1.out HBX.out.1.size HFIT.out ⟨by have:=HBD.out.1;omega,by have:=HBD.out.2;omega⟩);have HLV:=ZZ (fun (W':World) (o:Only nob X W')=>Zs4 G _ _ js Z.heap.size W' lim (R1.out.only o HBX.out.1.size) (Yi HBX.out.1.size o.size) HFIT.out ⟨by have:=HBD.out.1;omega,by have:=HBD.out.2;omega⟩ (by have:=HBD.out.1;omega))
  obtain⟨n,hn⟩: ∃n,n=(Zbn G).length:=⟨_,rfl⟩
  obtain⟨ws,hws⟩: ∃n,n=Zd0 G (ZF G lim 0 1):=⟨_,rfl⟩
  obtain⟨wl,hwl⟩: ∃n,n=Zd0 G (ZJ G lim 0 1):=⟨_,rfl⟩
  obtain⟨fl,hfl⟩: ∃n,n=wrap64 (Zd2 G (ZF G lim 0 1)+Zd2 G (ZJ G lim 0 1)):=⟨_,rfl⟩
  obtain⟨E1,hE1⟩: ∃n,n=Zbw G:=⟨_,rfl⟩
  obtain⟨E2,hE2⟩: ∃n,n=ZaZ G lim 0 1:=⟨_,rfl⟩
  rw[← hn, ← hws, ← hwl, ← hfl] at HY;rw[← hn, ← hE1] at HRC;rw[← hws, ← hwl, ← hfl, ← hE2] at HLV;have HCC:=ZZ (fun (W':World) (o:Only nob X W')=>(SB.out.keep (OX.out.trans o)).c3);rw[← HLIM.out] at HCC;clear hn hws hwl hfl hE1 hE2 hq0
  go_wp2_with fail
  go_at_call 39;refine HRC.out.mono ?_;rintro e w3 ⟨v3,rfl,h3,o3⟩;obtain⟨A3,k3,rfl, -, -⟩:=h3.form;have O3:=ZZ o3;have e0:=o3.keeps g0;have e1:=o3.keeps g1;have c3:=HCC.out w3 o3;clear h3 o3 g0 g1
  go_wp2_with fail
  go_at_call 40;refine(HLV.out w3 O3.out).mono ?_;rintro e w4 ⟨rfl,o4⟩;have O4:=ZZ (OV.out.trans (OX.out.trans (O3.out.trans o4)));clear o4 e0 e1 c3;go_wp2;exact bodyPost_ret (v:=.tuple #[.int .i64 n,.int .i64 ws,.int .i64 wl,.int .i64 fl,.int .i64 0]) (by simp[results,Tryz.results13,go_sem]) rfl ⟨by rw[HY.out.1,HY.out.2.1,HY.out.2.2.1,HY.out.2.2.2],O4.out⟩
structure LiC:Prop where
 lift:ZsI 8
 values:Zju 10
 live:Zs1 12
 alike:Zsk 17
def AwL19:Prop:= ∀w:World,Par w→Calls Tryz.prog 7 #[] w fun e w'=>e=.returned (.bool true)∧Only nob w w'
theorem ZjN {s:St} (hok:StOk s) (hL:Zaa s=false):ZdB s s=decide (Zar s=0):=by
 by_cases h:Zar s=0
 · rw[Zgv h h,Zmy,Zua h hok (by have:=ZdK (ZaM.1 h) hL;omega),Ym h]
 · rw[Zfw (.inl h),Yl h]
theorem Zge (C:LiC) (AW:AwL19) (s:St) (vw vt vf vs:Value) (w:World) (h:Rd w w.heap.size s vw vt vf vs) (hok:Wide15 s) (hpar:Par w):
 Calls Tryz.prog 3 #[.agg #[.int .i64 s.cf.semi,.int .i64 s.cf.large,.int .i64 s.cf.slots,.int .i64 s.cf.limit,.bool s.sec,vw,.int .i64 s.top,vt,vf,vs]] w fun e w'=>e=.returned (.bool true)∧Below w.heap.size w w':=by
 obtain⟨W,hW,HB⟩:=Zz w s vw vt vf vs;have HW:=ZZ hW
 obtain⟨p,hp⟩: ∃p,p=w.heap.size:=⟨_,rfl⟩
 have HBX:=ZZ HB.out.2.2;rw[← hp] at HBX;have HP:=ZZ hp;have HR:=ZZ h;have HPAR:=ZZ hpar;have HLG:=ZZ (Zu4 s vw vt vf vs w.heap.size W (h.only HB.out.1 (Yj _)));have HAW:=ZZ (show ∀W',Only nob w W'→Calls Tryz.prog 7 #[] W' fun e w'=>e=.returned (.bool true)∧Only nob W' w' from fun W' o=>AW W' (HPAR.out.old o));obtain⟨c0,c1,c2,c3,c4,c5,c6,c7,c8,c9⟩:=HBX.out;clear hW hp
 go_enter Tryz.func3,Tryz.ntmps3
 go_upto_region 1 with fail
 rw[HW.out, ← HP.out]
 go_wp2_with fail
 go_at_call 6;refine HLG.out.mono ?_
 cases hL:Zaa s
 case true=>
  rintro e w1 ⟨rfl,o⟩;have O1:=ZZ (HB.out.1.trans o);clear o hL c0 c1 c2 c3 c4 c5 c6 c7 c8 c9 h hok hpar
  go_wp2_with fail
  go_at_call 7;refine(HAW.out _ O1.out).mono ?_;rintro e w9 ⟨rfl,o9⟩;have O9:=ZZ (O1.out.trans o9);clear o9;go_wp2;go_ret;exact⟨rfl,O9.out.whole⟩
 case false=>
 have HOK:=ZZ (hok.ok hL);have HL:=ZZ hL;have HFIT:=ZZ (liG_fit HOK.out hL);have HK:=ZZ (show ∀W',Only nob w W'→Rd W' w.heap.size s vw vt vf vs∧w.heap.size≤W'.heap.size∧Par W' from fun W' o=>⟨HR.out.only o (Yj _),o.size,HPAR.out.old o⟩);have HQL:=ZZ (fun (W':World) (o:Only nob w W')=>C.lift s vw vt vf vs _ W' (HK.out W' o).1 (HK.out W' o).2.1 HOK.out (HK.out W' o).2.2 HL.out);have HQL':=ZZ (fun (W':World) (o:Only nob w W')=>ZoG s vw vt vf vs _ W' (HK.out W' o).1 (HK.out W' o).2.1 HOK.out (HK.out W' o).2.2 HL.out);have HQV:=ZZ (fun (W':World) (o:Only nob w W')=>C.values s vw vt vf vs _ W' (HK.out W' o).1 (HK.out W' o).2.1 HOK.out (HK.out W' o).2.2 HL.out);have HQV':=ZZ (fun (W':World) (o:Only nob w W')=>Zoi s vw vt vf vs _ W' (HK.out W' o).1 (HK.out W' o).2.1 HOK.out (HK.out W' o).2.2 HL.out);have HQI:=ZZ (fun (W':World) (o:Only nob w W')=>C.live s vw vt vf vs _ W' (HK.out W' o).1 (HK.out W' o).2.1 HOK.out (HK.out W' o).2.2 HL.out);have HQI':=ZZ (fun (W':World) (o:Only nob w W')=>ZsU s vw vt vf vs _ W' (HK.out W' o).1 (HK.out W' o).2.1 HOK.out (HK.out W' o).2.2 HL.out)
 obtain⟨G,hG⟩: ∃z,z=liG s:=⟨_,rfl⟩
 obtain⟨E,hE⟩: ∃z,z=obE s:=⟨_,rfl⟩
 obtain⟨M,hM⟩: ∃z,z=obL s:=⟨_,rfl⟩
 obtain⟨Vl,hVl⟩: ∃z,z=liV s:=⟨_,rfl⟩
 obtain⟨n1,hn1⟩: ∃z,z=lvN s:=⟨_,rfl⟩
 obtain⟨n2,hn2⟩: ∃z,z=lvA s:=⟨_,rfl⟩
 obtain⟨n3,hn3⟩: ∃z,z=lvB s:=⟨_,rfl⟩
 obtain⟨n4,hn4⟩: ∃z,z=lvF s:=⟨_,rfl⟩
 rw[← hG, ← hE, ← hM] at HQL HQL';rw[← hE, ← hVl] at HQV HQV';rw[← hE, ← hn1, ← hn2, ← hn3, ← hn4] at HQI HQI';rw[← hG] at HFIT;rintro e w1 ⟨rfl,o⟩;have O1:=ZZ (HB.out.1.trans o);have X1:=ZZ (HBX.out.keep o);clear o hL c0 c1 c2 c3 c4 c5 c6 c7 c8 c9 h hok hpar hG hE hM hVl hn1 hn2 hn3 hn4;obtain⟨c0,c1,c2,c3,c4,c5,c6,c7,c8,c9⟩:=X1.out
 go_wp2_with fail
 go_at_call 8;refine(HQL.out w1 O1.out).mono ?_;rintro e z1 ⟨un1,ur1,js1,v1,rfl,rd,hs,o⟩;obtain⟨An1,cn1,hun1, -⟩:=rd.nodes.form;obtain⟨Ar1,cr1,hur1, -⟩:=rd.roots.form;obtain⟨Al1,cl1,hvl1, -⟩:=hs.form;subst hun1 hur1 hvl1;obtain⟨Y1,hY,HY1⟩:=ZG z1 (.slice An1 G.nd.length cn1) (.slice Ar1 G.rt.length cr1);have HE1:=ZZ hY;have N1:=ZZ (o.trans HY1.out.1);have RG1:=ZZ ((rd.only HY1.out.1 (Yj _)).more HY1.out.1.size);have SL1:=ZZ ((hs.below HY1.out.1.whole).more HY1.out.1.size);have BG1:=ZZ HY1.out.2;have O2:=ZZ (O1.out.trans N1.out);have X2:=ZZ (X1.out.keep N1.out);clear rd hs o hY c0 c1 c2 c3 c4 c5 c6 c7 c8 c9
 go_upto_region 4 with fail
 rw[HE1.out];obtain⟨c0,c1,c2,c3,c4,c5,c6,c7,c8,c9⟩:=X2.out
 go_wp2_with fail
 go_at_call 9;refine(HQL'.out Y1 O2.out).mono ?_;rintro e z2 ⟨un2,ur2,js2,v2,rfl,rd,hs,o⟩;obtain⟨An2,cn2,hun2, -⟩:=rd.nodes.form;obtain⟨Ar2,cr2,hur2, -⟩:=rd.roots.form;obtain⟨Al2,cl2,hvl2, -⟩:=hs.form;subst hun2 hur2 hvl2;obtain⟨Y2,hY,HY2⟩:=ZG z2 (.slice An2 G.nd.length cn2) (.slice Ar2 G.rt.length cr2);have HE2:=ZZ hY;have N2:=ZZ (o.trans HY2.out.1);have RG2:=ZZ ((rd.only HY2.out.1 (Yj _)).more HY2.out.1.size);have SL2:=ZZ ((hs.below HY2.out.1.whole).more HY2.out.1.size);have BG2:=ZZ HY2.out.2;have O3:=ZZ (O2.out.trans N2.out);have X3:=ZZ (X2.out.keep N2.out);have RG1:=ZZ ((RG1.out.only N2.out (Yj _)).more N2.out.size);have SL1:=ZZ ((SL1.out.below N2.out.whole).more N2.out.size);have BG1:=ZZ (BG1.out.keep N2.out id);clear rd hs o hY c0 c1 c2 c3 c4 c5 c6 c7 c8 c9
 go_upto_region 5 with fail
 rw[HE2.out];obtain⟨c0,c1,c2,c3,c4,c5,c6,c7,c8,c9⟩:=X3.out
 go_wp2_with fail
 go_at_call 10;refine(HQV.out Y2 O3.out).mono ?_;rintro e Y3 ⟨v3,rfl,hs,o⟩;obtain⟨Al3,cl3,hvl3, -⟩:=hs.form;subst hvl3;have SL3:=ZZ hs;have N3:=ZZ o;have O4:=ZZ (O3.out.trans N3.out);have X4:=ZZ (X3.out.keep N3.out);have RG1:=ZZ ((RG1.out.only N3.out (Yj _)).more N3.out.size);have RG2:=ZZ ((RG2.out.only N3.out (Yj _)).more N3.out.size);have SL1:=ZZ ((SL1.out.below N3.out.whole).more N3.out.size);have SL2:=ZZ ((SL2.out.below N3.out.whole).more N3.out.size);have BG1:=ZZ (BG1.out.keep N3.out id);have BG2:=ZZ (BG2.out.keep N3.out id);clear o hs c0 c1 c2 c3 c4 c5 c6 c7 c8 c9;obtain⟨c0,c1,c2,c3,c4,c5,c6,c7,c8,c9⟩:=X4.out
 go_wp2_with fail
 go_at_call 11;refine(HQV'.out Y3 O4.out).mono ?_;rintro e Y4 ⟨v4,rfl,hs,o⟩;obtain⟨Al4,cl4,hvl4, -⟩:=hs.form;subst hvl4;have SL4:=ZZ hs;have N4:=ZZ o;have O5:=ZZ (O4.out.trans N4.out);have X5:=ZZ (X4.out.keep N4.out);have RG1:=ZZ ((RG1.out.only N4.out (Yj _)).more N4.out.size);have RG2:=ZZ ((RG2.out.only N4.out (Yj _)).more N4.out.size);have SL1:=ZZ ((SL1.out.below N4.out.whole).more N4.out.size);have SL2:=ZZ ((SL2.out.below N4.out.whole).more N4.out.size);have BG1:=ZZ (BG1.out.keep N4.out id);have BG2:=ZZ (BG2.out.keep N4.out id);have SL3:=ZZ ((SL3.out.below N4.out.whole).more N4.out.size);clear o hs c0 c1 c2 c3 c4 c5 c6 c7 c8 c9;obtain⟨c0,c1,c2,c3,c4,c5,c6,c7,c8,c9⟩:=X5.out
 go_wp2_with fail
 go_at_call 12;refine(HQI.out Y4 O5.out).mono ?_;rintro e Y5 ⟨rfl,o⟩;have N5:=ZZ o;have O6:=ZZ (O5.out.trans N5.out);have X6:=ZZ (X5.out.keep N5.out);have RG1:=ZZ ((RG1.out.only N5.out (Yj _)).more N5.out.size);have RG2:=ZZ ((RG2.out.only N5.out (Yj _)).more N5.out.size);have SL1:=ZZ ((SL1.out.below N5.out.whole).more N5.out.size);have SL2:=ZZ ((SL2.out.below N5.out.whole).more N5.out.size);have BG1:=ZZ (BG1.out.keep N5.out id);have BG2:=ZZ (BG2.out.keep N5.out id);have SL3:=ZZ ((SL3.out.below N5.out.whole).more N5.out.size);have SL4:=ZZ ((SL4.out.below N5.out.whole).more N5.out.size);clear o c0 c1 c2 c3 c4 c5 c6 c7 c8 c9;obtain⟨c0,c1,c2,c3,c4,c5,c6,c7,c8,c9⟩:=X6.out
 go_wp2_with fail
 go_at_call 13;refine(HQI'.out Y5 O6.out).mono ?_;rintro e Y6 ⟨rfl,o⟩;have N6:=ZZ o;have O7:=ZZ (O6.out.trans N6.out);have X7:=ZZ (X6.out.keep N6.out);have RG1:=ZZ ((RG1.out.only N6.out (Yj _)).more N6.out.size);have RG2:=ZZ ((RG2.out.only N6.out (Yj _)).more N6.out.size);have SL1:=ZZ ((SL1.out.below N6.out.whole).more N6.out.size);have SL2:=ZZ ((SL2.out.below N6.out.whole).more N6.out.size);have BG1:=ZZ (BG1.out.keep N6.out id);have BG2:=ZZ (BG2.out.keep N6.out id);have SL3:=ZZ ((SL3.out.below N6.out.whole).more N6.out.size);have SL4:=ZZ ((SL4.out.below N6.out.whole).more N6.out.size);clear o c0 c1 c2 c3 c4 c5 c6 c7 c8 c9;obtain⟨c0,c1,c2,c3,c4,c5,c6,c7,c8,c9⟩:=X7.out;have a0:Y6.cell? ⟨z1.heap.size,0,none⟩=some (.slice An1 G.nd.length cn1):=BG1.out.cell 0;have a1:Y6.cell? ⟨z1.heap.size,1,none⟩=some (.slice Ar1 G.rt.length cr1):=BG1.out.cell 1;have d0:Y6.cell? ⟨z2.heap.size,0,none⟩=some (.slice An2 G.nd.length cn2):=BG2.out.cell 0;have d1:Y6.cell? ⟨z2.heap.size,1,none⟩=some (.slice Ar2 G.rt.length cr2):=BG2.out.cell 1;clear c0 c1 c2 c3 c4 c5 c6 c7 c8 c9
 go_wp2_with fail
 go_at_call 14;refine(Zrf G _ _ _ _ js1 js2 Y6.heap.size Y6.heap.size Y6 RG1.out RG2.out (Yj _) (Yj _) HFIT.out).mono ?_;rintro e Y7 ⟨rfl,o⟩;have N7:=ZZ o;clear o a0 a1 d0 d1
 go_wp2_with fail
 go_at_call 15;refine(ZtX _ _ M _ _ Y7 (SL1.out.below N7.out.whole) (SL2.out.below N7.out.whole)).mono ?_;rintro e Y8 ⟨rfl,m8,h8⟩;have N8:=ZZ (show Only nob Y6 Y8 by rw[h8];exact N7.out.drewN m8);clear h8
 go_wp2_with fail
 go_at_call 16;refine(Zkk _ _ Vl Vl _ _ Y8 (SL3.out.below N8.out.whole) (SL4.out.below N8.out.whole)).mono ?_;rw[Ym (rfl:Vl=Vl)];rintro e Y9 ⟨rfl,o⟩;have O9:=ZZ (O7.out.trans (N8.out.trans o));clear o
 go_wp2_with fail
 go_at_call 7;refine(HAW.out _ O9.out).mono ?_;rintro e w9 ⟨rfl,o9⟩;have OF:=ZZ (O9.out.trans o9);clear o9;go_wp2;go_ret;exact⟨rfl,OF.out.whole⟩
end
section
open Go.RowKit
def lC:Cf:=⟨4,0,2,3⟩
theorem Zgp:lC.ok:=by unfold Cf.ok lC;simp
theorem ZoJ:CFit lC:=by constructor <;> (unfold I64 lC;simp)
def lS:St:=⟨lC,false,[259,2,0,0,0,0,0,0],2,[],[],[(false,0,0),(true,0,2)]⟩
def lT:St:={lS with top:=1}
theorem Zsd:Zt4 lC=⟨lC,false,List.replicate 8 0,0,[],[],[(false,0,0),(false,0,0)]⟩:=by
 rw[ZjB Zgp];unfold Zu;rw[if_pos Zgp];unfold lC;simp
theorem lW8:(Zu lC).toNat=8:=by
 unfold Zu;rw[if_pos Zgp];rfl
theorem Zuu:Z0 lC false=(0,4):=by
 rw[ZfE Zgp];rfl
theorem Zsq:lS.frm=(0,4):=Zuu
theorem ZrM:lT.frm=(0,4):=Zuu
theorem Zsf:((lS.ws.length:Nat):Int)=Zu lC:=by
 unfold Zu;rw[if_pos Zgp];rfl
theorem ZvE {s:St} (h1:s.frm=(0,4)) (h2:s.top=1∨s.top=2):r3 s=true:=by
 unfold r3;rw[h1]
 rcases h2 with h2|h2 <;> rw[h2] <;> decide
theorem ZgO:(hAr lS.ws 0).e=0∧osz (hAr lS.ws) 0=2:=by decide
theorem Zr5:Zar lT=4:=by
 refine Zny Zgp Zsf (ZvE ZrM (.inl rfl)) fun h0=>?_;have hok:=ZhY h0
 have hs:lT.steps=tr (hAr lS.ws) 1 0:=by
  unfold St.steps ZN;rw[ZrM];exact if_pos (by unfold may9 Sp.ok most lT;simp)
 rw[hs] at hok
 have hsw:swE (hAr lS.ws) 1 0≠0:=by rw[Zr1 ZgO.1 (by rw[ZgO.2];decide)];decide
 rw[Zez (by decide) hsw] at hok
 have:=hok _ (Yt.2 rfl)
 rw[Zcf] at this;exact hsw this
theorem ZuV:swE (hAr lS.ws) 2 0=0:=ZuL ZgO.1 (by rw[ZgO.2];decide)
theorem ZkF:lS.steps=[item (hAr lS.ws) 2 0]:=by
 have hs:lS.steps=tr (hAr lS.ws) 2 0:=by
  unfold St.steps ZN;rw[Zsq];exact if_pos (by unfold may9 Sp.ok most lS;simp)
 rw[hs,ZiW (ZbG _) (by decide) ZuV,ZgO.2,ZeD (by decide)]
theorem ZjS:wkE lS.steps=0∧lS.smalls=[0]:=by
 have hok: ∀y∈lS.steps,y.e=0:=by
  intro y hy;rw[ZkF,Yt] at hy;rw[hy,Zcf];exact ZuV
 obtain⟨-,h2,h3⟩:=ZoO hok lS.top;refine⟨h2,?_⟩;unfold St.smalls;rw[h3,ZkF];simp[ats,ZaW]
theorem ZhP:lS.objs=[0]:=by
 unfold St.objs;rw[ZjS.2];rfl
theorem ZtW:Zao (Zp lC) [] []:=by
 have h:=(Ztw Zgp).big;rw[Zsd] at h;unfold r6 at h;rw[Bool.and_eq_true,decide_eq_true_iff] at h;exact h.1
theorem ZuR:May15 lS where
 ok:=Zgp
 many:=Zsf
 top:=ZvE Zsq (.inr rfl)
 walk:=ZjS.1
 low:=by
  unfold r5;rw[ZjS.2];show(low lC lS.ws 0&&true)=true;unfold low ZaH;rw[ZgO.2,Ym Zgp];decide
 big:=by
  unfold r6;rw[Bool.and_eq_true,decide_eq_true_iff];exact⟨ZtW,rfl⟩
 slots:=by show ZbQ dE [(false,0,0),(true,0,2)] 2=true;decide
 fields:=by
  unfold r8;rw[ZhP];decide
 leads:=by
  unfold r9;rw[ZhP];decide
theorem ZiO:Zar lS=0:=ZaM.2 ZuR
def lG:Gr:=⟨[⟨0,[(2,0)],[]⟩],[(2,0)]⟩
theorem Zk6:liG lS=lG:=by
 rw[Zdq ZiO,ZhP]
 have h1:ohK lS.ws 0=0∧ohF lS.ws 0=1∧ohR lS.ws 0=0:=by decide
 have h2:Zck [0] 2=(2,0):=by decide
 have h3:liN [0] lS.ws 0=⟨0,[(2,0)],[]⟩:=by
  unfold liN Zlg Zm7;rw[h1.1,h1.2.1,h1.2.2];show(⟨0,[Zck [0] 2],[]⟩:Nd)=_;rw[h2]
 have h4:Zes [0] lS.sl=[(2,0)]:=by
  show[Zck [0] 2]=_;rw[h2]
 show(⟨[liN [0] lS.ws 0],Zes [0] lS.sl⟩:Gr)=_;rw[h3,h4];rfl
theorem Ztc:liV lS=[(2,0)]:=by
 unfold liV;rw[if_pos ZiO];show[Zmc 2]=_;decide
theorem Zhk:lvN lS=1∧lvA lS=2∧lvB lS=0∧lvF lS=1:=by
 obtain⟨h1,h2,h3,h4⟩:=ZnJ ZiO;rw[h1,h2,h3,h4,Zk6];show(((Zbn lG).length:Nat):Int)=1∧Zd0 lG (ZF lG 3 0 1)=2∧Zd0 lG (ZJ lG 3 0 1)=0∧wrap64 (Zd2 lG (ZF lG 3 0 1)+Zd2 lG (ZJ lG 3 0 1))=1;decide+kernel
theorem Ze4:obE lS=0∧obL lS=[0]:=by
 obtain⟨h1,h2⟩:=Zbu ZiO;exact⟨h1,h2.trans ZhP⟩
theorem Zrj:obE lT=4:=(Zcl (s:=lT) (by rw[Zr5];decide)).1
theorem ZpT:StOk lS∧StOk lT:=by
 have w:Za8 lS.ws:=by unfold Za8;decide
 have e0:Zry []:=fun _ h=>by cases h
 have s1:Znq [(false,0,0),(true,0,2)]:=fun x hx=>by
  simp at hx;rcases hx with rfl|rfl
  · exact⟨by simp,by simp,by decide⟩
  · exact⟨by simp,by simp,by decide⟩
 exact⟨⟨ZoJ,w,by unfold I64 lS;simp,e0,e0,s1,by unfold lS;simp⟩,⟨ZoJ,w,by unfold I64 lT lS;simp,e0,e0,s1,by unfold lT lS;simp⟩⟩
theorem Zcd:Zaa lS=false∧Zaa lT=false:=by decide
theorem ZoZ:ZdB lS lS=true∧ZdB lS lT=false:=by
 refine⟨?_,Zfw (.inr (by rw[Zr5];decide))⟩;rw[ZjN ZpT.1 Zcd.1,ZiO];rfl
end
end Go.Proofs.YteieocddfnlmdaaGreatDoor
