/- A heap that is looked at: its rules 5 to 9. -/
import Derived.Test.YtknoncenblehkaaGreatDoorG22
set_option maxRecDepth 100000
set_option maxHeartbeats 32000000
set_option linter.unusedSimpArgs false
set_option linter.unusedVariables false
namespace Go.Proofs.YtknoncenblehkaaGreatDoor
section
open Go.RowKit
theorem ZfB {l:List Nat} {p:Int} (h:Zd7 l p=true):ohE l p=0∧idle l p=true:=by
 unfold Zd7 at h;simpa using h
theorem Zhd {l:List Nat} {p:Int} (h:Zd7 l p=false) (h0:ohE l p=0):idle l p=false:=by
 unfold Zd7 at h;simpa[h0] using h
section
variable {w:World} {base g ba ga mp n:Nat} {s:St} {vw vt vf vs vm:Value} {L K:List Int}
theorem ZjB (h:Lk w base g ba ga mp 0 s vw vt vf vs vm s.smalls []) (hok:StOk s) (h4:wkE s.steps=0):
 Calls Tryz.prog 106 #[.pointer (some ⟨g,0,none⟩)] w fun e w'=>e=.returned (.bool (r5 s))∧(r5 s=true→Lk w' base g ba ga mp s.smalls.length s vw vt vf vs vm s.smalls s.smalls)∧Only (isb mp) w w':=by
 have hl:=ZbH s;have HEAD:=ZZ (fun p (hp:p∈s.smalls)=>Zes h4 hp);have HC:=ZZ hok.cf;have HR:=ZZ (show r5 s=s.smalls.all (low s.cf s.ws) from rfl);have HW:=ZZ hok.few
 obtain⟨L,hL⟩: ∃L,L=s.smalls:=⟨_,rfl⟩
 rw[← hL] at h hl HEAD HR ⊢
 obtain⟨q,hq⟩: ∃q,q=r5 s:=⟨_,rfl⟩
 rw[← hq] at HR ⊢;have HL:=ZZ h;obtain⟨Am,cm,rfl,ham,hcm⟩:=Zl h.own;unfold maxLen at hcm;have c11:=h.c11;clear h hL hq hok h4
 go_enter Tryz.func106,Tryz.ntmps106
 go_wp2_with fail
 go_loopw [4,5,6,12] (fun _ _ _ i wr=> ∃k:Nat,k≤L.length∧i=.int .i64 k∧Hid (Lk wr base g ba ga mp k s vw vt vf vs (.slice Am L.length cm) L (L.take k))∧Hid (Only (isb mp) w wr)∧Hid (∀(j:Nat) y,j<k→L[j]? =some y→low s.cf s.ws y=true)) (fun _ _ _ i _=>L.length - (intOf i).toNat)
 case atStart=>exact⟨0,Yt _,rfl,ZZ HL.out,ZZ (Only.refl _ _),ZZ fun j _ hj _=>absurd hj (Nat.not_lt_zero j)⟩
 case round=>
  obtain⟨k,hk,rfl,HLK,HO,HJ⟩:=hrel;clear c11;by_cases hlt:k<L.length
  · obtain⟨p,hp⟩: ∃x,L[k]? =some x:=⟨_,Ya hlt⟩
    obtain⟨b,o,rfl, -,d0⟩:=ZcP (Sl.of_own HLK.out.own (by simp[i64s])) (Below.refl _ _) hp;have hE:=HEAD.out p (Yn hp);have hbd:=Zcg hE;have HP:=ZZ hp;have HE:=ZZ hE
    have hpI:I64 p:=by have:=HW.out.1;unfold I64;omega
    have HPI:=ZZ hpI;have hz:=Zm0 s.ws p hE
    cases hN:Zd7 s.ws p with
    |false=>
     have HQ:=ZZ (HR.out.trans (Zb3 HP.out (show low s.cf s.ws p=false by unfold low;rw[Zhd hN HE.out];rfl)));have HNT:=ZZ (Zj7 HLK.out p HPI.out hN);clear hN hE hbd hp hpI hz
     go_wp2_with fail
     go_at_call 140;refine HNT.out.mono ?_;rintro e w1 ⟨rfl,o⟩;obtain⟨W3,hW3,HB3⟩:=Z0 w1;have HW3:=ZZ hW3;have O3:=ZZ (HO.out.trans ((o.trans HB3.out.1).mono fun _ _ h=>h.elim));clear hW3 o d0
     go_upto_region 5 with fail
     rw[HW3.out]
     go_quiet (fail)
     go_wp2;go_ret;exact⟨Za (by rw[HQ.out]),(fun h=>by rw[HQ.out] at h;cases h),O3.out.drewN _⟩
    |true=>
     have hid':=(ZfB hN).2;have HNT:=ZZ (Zg9 HLK.out p HPI.out (by omega) hN);have HLW:=ZZ (show low s.cf s.ws p=ZX s.cf (osz (hAr s.ws) p) by unfold low;rw[hid'];rfl);have HSZ:=ZZ (fun (w:World) (hp:Par w)=>ZaW (ohK s.ws p) (ohF s.ws p) (ohR s.ws p) (ohM s.ws p) (ohC s.ws p) w hp);rw[hz] at HSZ;unfold hV at HNT
     have hzI:I64 (osz (hAr s.ws) p):=by
      have h1:osz (hAr s.ws) p=1+ohF s.ws p+ohR s.ws p:=rfl;rw[h1];unfold I64;omega
     have HSM:=ZZ (fun (w:World)=>Zf3 s.cf (osz (hAr s.ws) p) w HC.out hzI)
     obtain⟨kk,hkk⟩: ∃k,k=ohK s.ws p:=⟨_,rfl⟩
     obtain⟨f,hf⟩: ∃k,k=ohF s.ws p:=⟨_,rfl⟩
     obtain⟨r,hr⟩: ∃k,k=ohR s.ws p:=⟨_,rfl⟩
     obtain⟨m,hm'⟩: ∃k,k=ohM s.ws p:=⟨_,rfl⟩
     obtain⟨c,hc⟩: ∃k,k=ohC s.ws p:=⟨_,rfl⟩
     obtain⟨z,hz'⟩: ∃k,k=osz (hAr s.ws) p:=⟨_,rfl⟩
     rw[← hkk, ← hf, ← hr, ← hm', ← hc] at HNT HSZ;rw[← hz'] at HSZ HSM HLW
     obtain⟨sm,hsm⟩: ∃sm,sm=ZX s.cf z:=⟨_,rfl⟩
     rw[← hsm] at HSM HLW;clear hN hE hbd hp hpI hz hid' hkk hf hr hm' hc hz' hzI hsm
     go_wp2_with fail
     go_at_call 140;refine HNT.out.mono ?_;rintro e w1 ⟨rfl,hLk,o⟩;obtain⟨W3,hW3,HB3⟩:=ZU w1 kk f r m c;have HW3:=ZZ hW3;have O3:=ZZ (HO.out.trans (o.trans (HB3.out.1.mono fun _ _ h=>h.elim)));have K3:=ZZ (hLk.keep HB3.out.1);clear hW3 o d0 hLk
     go_upto_region 5 with fail
     rw[HW3.out];obtain⟨c0,c1,c2,c3,c4,c5,c6,c7,c8,c9⟩:=K3.out.box.all;obtain⟨e0,e1,e2,e3,e4⟩:=Zfa HB3.out.2;clear c4 c5 c6 c7 c8 c9;refine Zm Zbx (by kernel_rfl) ?_
     repeat (with_reducible refine wpQuiet_step ?_;intro K' hK';go_simp;first|(with_reducible refine hK' _ ?_;clear hK' K')|(apply Exists.intro;with_reducible refine⟨fun _=>?_,hK' _ ?_⟩;(first|(go_at_call 135;with_reducible refine Zq (HSZ.out _ (K3.out.keep (ZaL _ _ _)).par))|(go_at_call 80;with_reducible refine Zq (HSM.out _)));clear hK' K'))
     refine wpQuiet_nil ?_;rintro w' ⟨⟨nq,osq⟩,rfl⟩;obtain⟨W6,hW6,O6⟩:=Zt W3 nq osq;rw[hW6];clear hW6 c0 c1 c2 c3 e0 e1 e2 e3 e4;have O7:=ZZ (O3.out.trans (O6.out.mono fun _ _ h=>h.elim));have K7:=ZZ (K3.out.keep O6.out)
     cases sm with
     |false=>
      have HQ:=ZZ (HR.out.trans (Zb3 HP.out HLW.out));go_wp2;go_ret;exact⟨Za (by rw[HQ.out]),(fun h=>by rw[HQ.out] at h;cases h),O7.out⟩
     |true=>
      have HK:=ZZ (show L.take (k+1)=L.take k++[p] by rw[List.take_add_one,HP.out];simp);go_wp2
      go_roundw
      case rel=>
       refine⟨k+1,by omega,by go_num,ZZ (by rw[HK.out];exact K7.out),O7,ZZ (ZbG HJ.out HP.out HLW.out)⟩
      case measure=>simp[intOf];omega
  · obtain rfl:k=L.length:=by omega
    have HQ:=ZZ (HR.out.trans (Zc5 fun j y hj hy=>HJ.out j y hj hy));have HK:=ZZ (show L.take L.length=L from List.take_length);go_wp2;go_ret;exact⟨Za (by rw[HQ.out]),(fun _=>by have:=HLK.out;rw[HK.out] at this;exact this),HO.out⟩
theorem Zjd (h:SBox w g s vw vt vf vs) (hr:Rd w base s vw vt vf vs) (hb:base≤w.heap.size) (hok:StOk s):
 Calls Tryz.prog 108 #[.pointer (some ⟨g,0,none⟩)] w fun e w'=>e=.returned (.bool (r7 s))∧Only nob w w':=by
 have HR:=ZZ (show ∀W',Only nob w W'→Calls Tryz.prog 142 #[vs,.int .i64 s.cf.slots] W' fun e w'=>e=.returned (.bool (r7 s))∧Only nob W' w' from fun W' o=>Zgs vs s.sl s.cf.slots base W' (hr.slots.below (o.below hb fun _ h=>h.elim)) (Yh hb o.size) hok.few.2.2.2 hok.sl)
 obtain⟨q,hq⟩: ∃q,q=r7 s:=⟨_,rfl⟩
 rw[← hq] at HR ⊢;obtain⟨Al,cl,rfl, -, -⟩:=hr.slots.form;obtain⟨c0,c1,c2,c3,c4,c5,c6,c7,c8,c9⟩:=h.all;clear hq hr h c0 c1 c3 c4 c5 c6 c7 c8
 go_enter Tryz.func108,Tryz.ntmps108
 go_upto_region 1 with fail
 refine Zm Zbx (by kernel_rfl) ?_
 repeat (with_reducible refine wpQuiet_step ?_;intro K' hK';go_simp;first|(with_reducible refine hK' _ ?_;clear hK' K')|(apply Exists.intro;with_reducible refine⟨fun _=>?_,hK' _ ?_⟩;(go_at_call 142;with_reducible refine Zq (HR.out _ (ZaL _ _ _)));clear hK' K'))
 refine wpQuiet_nil ?_;rintro w' ⟨⟨nq,osq⟩,rfl⟩;obtain⟨W6,hW6,O6⟩:=Zt w nq osq;rw[hW6];clear hW6 c2 c9;go_wp2;go_ret;exact⟨rfl,O6.out⟩
end
end
section
open Go.RowKit
def tbK (l:List Sp) (k:Nat):List Int:=(l.take k).map (·.1)
theorem ZlV {l:List Sp} {k:Nat} {x:Sp} (h:l[k]? =some x):tbK l (k+1)=tbK l k++[x.1]:=by
 unfold tbK;rw[List.take_add_one,h];simp
section
variable {w:World} {base g ba ga mp n:Nat} {s:St} {vw vt vf vs vm:Value} {L K:List Int}
theorem Zkc (h:Lk w base g ba ga mp n s vw vt vf vs vm L L) (hn:n≤40000) (hok:StOk s):
 Calls Tryz.prog 107 #[.pointer (some ⟨g,0,none⟩)] w fun e w'=>e=.returned (.bool (r6 s))∧(r6 s=true→Lk w' base g ba ga mp (n+s.tb.length) s vw vt vf vs vm L (L++s.tb.map (·.1)))∧Only (isb mp) w w':=by
 have HC:=ZZ hok.cf;have HW:=ZZ hok.few;have HTB:=ZZ hok.tb;have HL:=ZZ h;have HLA:=ZZ (fun w:World=>Zf8 s.cf w hok.cf);have hfit:=(ZbC s.cf s.sec).2.2;have HRT:=ZZ (show ∀W',Only nob w W'→Calls Tryz.prog 141 #[.agg #[.int .i64 (Ze s.cf).1,.int .i64 (Ze s.cf).2],vt,vf] W' fun e w'=>e=.returned (.bool (decide (Zbm (Ze s.cf) s.tb s.fr)))∧Only nob W' w' from fun W' o=>Zn4 (Ze s.cf) vt vf s.tb s.fr base W' (h.rd.tab.below (o.below h.le fun _ h=>h.elim)) (h.rd.free.below (o.below h.le fun _ h=>h.elim)) (Yh h.le o.size) (by have:=hok.few.2.1;omega) hok.tb.fits hfit);obtain⟨At,ct,rfl,hat,hct⟩:=h.rd.tab.form;obtain⟨Af,cf,rfl,haf,hcf⟩:=h.rd.free.form;unfold maxLen at hct hcf;have HR:=ZZ (show r6 s=(decide (Zbm (Ze s.cf) s.tb s.fr)&&s.tb.all (big s.cf s.ws)) from rfl)
 obtain⟨q,hq⟩: ∃q,q=r6 s:=⟨_,rfl⟩
 obtain⟨a,ha⟩: ∃q,q=(Ze s.cf).1:=⟨_,rfl⟩
 obtain⟨z,hz⟩: ∃q,q=(Ze s.cf).2:=⟨_,rfl⟩
 obtain⟨t,ht⟩: ∃q,q=decide (Zbm (Ze s.cf) s.tb s.fr):=⟨_,rfl⟩
 rw[← hq, ← ht] at HR;rw[← hq];rw[← ha, ← hz, ← ht] at HRT;rw[← ha, ← hz] at HLA;have htl:=hok.few.2.1;obtain⟨c0,c1,c2,c3,c4,c5,c6,c7,c8,c9⟩:=h.box.all;clear hq ha hz ht hfit h c4 c5 c6 c9 hok
 go_enter Tryz.func107,Tryz.ntmps107
 go_upto_region 1 with fail
 refine Zm Zbx (by kernel_rfl) ?_
 repeat (with_reducible refine wpQuiet_step ?_;intro K' hK';go_simp;first|(with_reducible refine hK' _ ?_;clear hK' K')|(apply Exists.intro;with_reducible refine⟨fun _=>?_,hK' _ ?_⟩;(first|(go_at_call 56;with_reducible refine Zq (HLA.out _))|(go_at_call 141;with_reducible refine Zq (HRT.out _ (ZaL _ _ _))));clear hK' K'))
 refine wpQuiet_nil ?_;rintro w' ⟨⟨nq,osq⟩,rfl⟩;obtain⟨W6,hW6,O6⟩:=Zt w nq osq;rw[hW6];clear hW6 c0 c1 c2 c3 c7 c8
 cases t with
 |false=>
  have HQ:=ZZ (show q=false by rw[HR.out];rfl);go_wp2;go_ret;exact⟨Za (by rw[HQ.out]),(fun h=>by rw[HQ.out] at h;cases h),O6.out.mono fun _ _ h=>h.elim⟩
 |true=>
 have HR2:=ZZ (show q=s.tb.all (big s.cf s.ws) by rw[HR.out];rfl);have K6:=ZZ (HL.out.keep O6.out);have c7:=K6.out.box.c7
 go_wp2_with fail
 go_loopw [4,5,6,31] (fun _ _ _ i wr=> ∃k:Nat,k≤s.tb.length∧i=.int .i64 k∧Hid (Lk wr base g ba ga mp (n+k) s vw (.slice At s.tb.length ct) (.slice Af s.fr.length cf) vs vm L (L++tbK s.tb k))∧Hid (Only (isb mp) w wr)∧Hid (∀(j:Nat) y,j<k→s.tb[j]? =some y→big s.cf s.ws y=true)) (fun _ _ _ i _=>s.tb.length - (intOf i).toNat)
 case atStart=>exact⟨0,Yt _,rfl,ZZ (by simpa[tbK] using K6.out),ZZ (O6.out.mono fun _ _ h=>h.elim),ZZ fun j _ hj _=>absurd hj (Nat.not_lt_zero j)⟩
 case round=>
  obtain⟨k,hk,rfl,HLK,HO,HJ⟩:=hrel;clear c7;by_cases hlt:k<s.tb.length
  · obtain⟨x,hx⟩: ∃x,s.tb[k]? =some x:=⟨_,Ya hlt⟩
    obtain⟨b,o,rfl, -,d0,d1⟩:=Zy HLK.out.rd.tab (Below.refl _ _) hx;have HP:=ZZ hx;have hpI:I64 x.1:=(HTB.out x (Yn hx)).1;have hsI:I64 x.2:=(HTB.out x (Yn hx)).2;have HPI:=ZZ hpI;have HBG:=ZZ (show big s.cf s.ws x=(decide (ohE s.ws x.1=0)&&(decide (osz (hAr s.ws) x.1=x.2)&&(idle s.ws x.1&&!ZX s.cf x.2))) from rfl);obtain⟨W2,hW2,HB2⟩:=Z8 wr x.1 x.2;have HW2:=ZZ hW2;have K2:=ZZ (HLK.out.keep HB2.out.1);have HSM:=ZZ (fun (w:World)=>Zf3 s.cf x.2 w HC.out hsI)
    cases hN:Zd7 s.ws x.1 with
    |false=>
     have HQ:=ZZ (HR2.out.trans (Zb3 HP.out (show big s.cf s.ws x=false by
      rw[HBG.out];by_cases hE:ohE s.ws x.1=0
      · rw[Zhd hN hE];simp
      · simp[hE])))
     have HNT:=ZZ (Zj7 K2.out x.1 HPI.out hN)
     obtain⟨p,hp⟩: ∃p,p=x.1:=⟨_,rfl⟩
     obtain⟨y,hy⟩: ∃p,p=x.2:=⟨_,rfl⟩
     rw[← hp] at d0 HNT HB2 HW2;rw[← hy] at d1 HB2 HW2;clear hN hx hpI hsI hW2 hp hy
     go_upto_region 6 with fail
     rw[HW2.out];obtain⟨-, -,e0,e1⟩:=HB2.out
     go_wp2_with fail
     go_at_call 140;refine HNT.out.mono ?_;rintro e w1 ⟨rfl,o⟩;obtain⟨W3,hW3,HB3⟩:=Z0 w1;have HW3:=ZZ hW3;have O3:=ZZ (HO.out.trans ((HB2.out.1.trans (o.trans HB3.out.1)).mono fun _ _ h=>h.elim));clear hW3 o d0 d1 e0 e1
     go_upto_region 7 with fail
     rw[HW3.out]
     go_quiet (fail)
     go_wp2;go_ret;exact⟨Za (by rw[HQ.out]),(fun h=>by rw[HQ.out] at h;cases h),O3.out.drewN _⟩
    |true=>
     obtain⟨hE,hid'⟩:=ZfB hN;have HNT:=ZZ (Zg9 K2.out x.1 HPI.out (by omega) hN);rw[hE,hid'] at HBG;have hzz:=Zm0 s.ws x.1 hE;have HSZ:=ZZ (fun (w:World) (hp:Par w)=>ZaW (ohK s.ws x.1) (ohF s.ws x.1) (ohR s.ws x.1) (ohM s.ws x.1) (ohC s.ws x.1) w hp);rw[hzz] at HSZ;unfold hV at HNT;have HKN:=ZZ (ZlV HP.out)
     obtain⟨kk,hkk⟩: ∃k,k=ohK s.ws x.1:=⟨_,rfl⟩
     obtain⟨f,hf⟩: ∃k,k=ohF s.ws x.1:=⟨_,rfl⟩
     obtain⟨r,hr⟩: ∃k,k=ohR s.ws x.1:=⟨_,rfl⟩
     obtain⟨m,hm'⟩: ∃k,k=ohM s.ws x.1:=⟨_,rfl⟩
     obtain⟨c,hc⟩: ∃k,k=ohC s.ws x.1:=⟨_,rfl⟩
     obtain⟨z',hz'⟩: ∃k,k=osz (hAr s.ws) x.1:=⟨_,rfl⟩
     rw[← hkk, ← hf, ← hr, ← hm', ← hc] at HNT HSZ;rw[← hz'] at HSZ HBG
     obtain⟨p,hp⟩: ∃p,p=x.1:=⟨_,rfl⟩
     obtain⟨y,hy⟩: ∃p,p=x.2:=⟨_,rfl⟩
     rw[← hp] at d0 HNT HB2 HW2 HKN;rw[← hy] at d1 HB2 HW2 HSM HBG
     obtain⟨sm,hsm⟩: ∃sm,sm=ZX s.cf y:=⟨_,rfl⟩
     rw[← hsm] at HSM HBG;clear hN hE hx hpI hsI hzz hid' hkk hf hr hm' hc hz' hsm hp hy hW2
     go_upto_region 6 with fail
     rw[HW2.out];obtain⟨-, -,e0,e1⟩:=HB2.out
     go_wp2_with fail
     go_at_call 140;refine HNT.out.mono ?_;rintro e w1 ⟨rfl,hLk,o⟩;obtain⟨W3,hW3,HB3⟩:=ZU w1 kk f r m c;have HW3:=ZZ hW3;have O3:=ZZ (HO.out.trans ((HB2.out.1.mono fun _ _ h=>h.elim:Only (isb mp) wr W2).trans (o.trans (HB3.out.1.mono fun _ _ h=>h.elim))));have K3:=ZZ (hLk.keep HB3.out.1);have B3:=ZZ ((HB2.out.2.1.keep o (HLK.out.map.keep HB2.out.1 id|>.ne_blk HB2.out.2.1)).keep HB3.out.1 id);clear hW3 o d0 d1 e0 e1 hLk
     go_upto_region 7 with fail
     rw[HW3.out];obtain⟨c0,c1,c2,c3,c4,c5,c6,c7,c8,c9⟩:=K3.out.box.all;obtain⟨g0,g1,g2,g3,g4⟩:=Zfa HB3.out.2;have f1:=Zh (show W3.cell? ⟨wr.heap.size,1,none⟩=some (.int .i64 y) from B3.out.cell 1);clear c4 c5 c6 c7 c8 c9;refine Zm Zbx (by kernel_rfl) ?_;by_cases hzy:z'=y
     · subst hzy
       repeat (with_reducible refine wpQuiet_step ?_;intro K' hK';go_simp;first|(with_reducible refine hK' _ ?_;clear hK' K')|(apply Exists.intro;with_reducible refine⟨fun _=>?_,hK' _ ?_⟩;(first|(go_at_call 135;with_reducible refine Zq (HSZ.out _ (K3.out.keep (ZaL _ _ _)).par))|(go_at_call 80;with_reducible refine Zq (HSM.out _)));clear hK' K'))
       refine wpQuiet_nil ?_;rintro w' ⟨⟨nq,osq⟩,rfl⟩;obtain⟨W7,hW7,O7⟩:=Zt W3 nq osq;rw[hW7];clear hW7 c0 c1 c2 c3 g0 g1 g2 g3 g4 f1;have O8:=ZZ (O3.out.trans (O7.out.mono fun _ _ h=>h.elim));have K8:=ZZ (K3.out.keep O7.out)
       cases sm with
       |true=>
        have HQ:=ZZ (HR2.out.trans (Zb3 HP.out (by rw[HBG.out];simp)));go_wp2;go_ret;exact⟨Za (by rw[HQ.out]),(fun h=>by rw[HQ.out] at h;cases h),O8.out⟩
       |false=>
        go_wp2
        go_roundw
        case rel=>
         have HJ2:=ZbG HJ.out HP.out (by rw[HBG.out];simp)
         have HK2:Lk W7 base g ba ga mp (n+(k+1)) s vw (.slice (some ⟨b,o,none⟩) s.tb.length ct) (.slice Af s.fr.length cf) vs vm L (L++tbK s.tb (k+1)):=by
          have:=K8.out
          rw[HKN.out, ← List.append_assoc];exact this
         exact⟨_,_,_,_,_,⟨k+1,by omega,by go_num,ZZ HK2,ZZ fun j a b hj h=>HJ2 j (a,b) hj h⟩,rfl,rfl,rfl,rfl,rfl⟩
        case measure=>simp[intOf];omega
     · have hbq:(z' !=y)=true:=by simpa using hzy
       have HQ:=ZZ (HR2.out.trans (Zb3 HP.out (by rw[HBG.out];simp[hzy])));clear hzy
       repeat (with_reducible refine wpQuiet_step ?_;intro K' hK';go_simp;first|(with_reducible refine hK' _ ?_;clear hK' K')|(apply Exists.intro;with_reducible refine⟨fun _=>?_,hK' _ ?_⟩;(first|(go_at_call 135;with_reducible refine Zq (HSZ.out _ (K3.out.keep (ZaL _ _ _)).par))|(go_at_call 80;with_reducible refine Zq (HSM.out _)));clear hK' K'))
       refine wpQuiet_nil ?_;rintro w' ⟨⟨nq,osq⟩,rfl⟩;obtain⟨W7,hW7,O7⟩:=Zt W3 nq osq;rw[hW7];clear hW7 c0 c1 c2 c3 g0 g1 g2 g3 g4 f1;have O8:=ZZ (O3.out.trans (O7.out.mono fun _ _ h=>h.elim));go_wp2;go_ret;exact⟨Za (by rw[HQ.out]),(fun h=>by rw[HQ.out] at h;cases h),O8.out⟩
  · obtain rfl:k=s.tb.length:=by omega
    have HQ:=ZZ (HR2.out.trans (Zc5 fun j y hj hy=>HJ.out j y hj hy));have HK:=ZZ (show tbK s.tb s.tb.length=s.tb.map (·.1) by unfold tbK;rw[List.take_length]);go_wp2;go_ret;exact⟨Za (by rw[HQ.out]),(fun _=>by have:=HLK.out;rw[HK.out] at this;exact this),HO.out⟩
end
end
section
open Go.RowKit
theorem ZgG (all:List Int) (l:List Nat) (p n:Nat) (hn:p+1+n≤l.length) (hf:(ohF l p).toNat=n):Zcw all l p=!((Zkf l (p+1) n).any fun x=>!leads all x):=by
 unfold Zcw;rw[hf];rw[Bool.eq_iff_iff];simp only[List.all_eq_true,List.mem_range,Bool.not_eq_true',List.any_eq_false];constructor
 · intro h x hx
   obtain⟨j,hj⟩:=List.getElem?_of_mem hx
   have hlt:j<n:=by
    have:=(Yj.1 hj).1
    rw[ZhH _ _ _ hn] at this;exact this
   rw[Zh0 l (p+1) n j hn hlt] at hj;obtain rfl:=Yo hj
   have:=h j hlt
   have e:((p:Int)+1+(j:Nat)).toNat=p+1+j:=by omega
   rw[e] at this;rw[this];decide
 · intro h k hk
   have h1:=h (wd l (p+1+k)) (Yn (Zh0 l (p+1) n k hn hk))
   have e:((p:Int)+1+(k:Nat)).toNat=p+1+k:=by omega
   rw[e];simpa using h1
def ZgQ (all:List Int) (t:Slt):Bool:=!t.1||leads all t.2.2
section
variable {w:World} {base g ba ga mp n:Nat} {s:St} {vw vt vf vs vm:Value} {L K:List Int}
theorem Zip (h:Lk w base g ba ga mp n s vw vt vf vs vm L K):ZnZ 145 #[.pointer (some ⟨g,0,none⟩)] (fun x=>!leads K x) w:=
 ⟨enters_of Tryz.func145 (by kernel_rfl) rfl,fun x hx W hW=>Zci (h.keep hW) x hx⟩
theorem Zir (h:Lk w base g ba ga mp n s vw vt vf vs vm s.smalls s.objs) (hok:StOk s) (hE: ∀p∈s.objs,ohE s.ws p=0):
 Calls Tryz.prog 109 #[.pointer (some ⟨g,0,none⟩)] w fun e w'=>e=.returned (.bool (r8 s))∧Only nob w w':=by
 have HL:=ZZ h;have HOK:=ZZ hok;have HE:=ZZ hE;have HR:=ZZ (show r8 s=s.objs.all (Zcw s.objs s.ws) from rfl);have HOB:=ZZ (show Calls Tryz.prog 66 #[.pointer (some ⟨g,0,none⟩)] w fun e w'=> ∃v',e=.returned v'∧w'.ownsRow w.heap.size 3 1 v' s.objs.length (i64s s.objs)∧Only nob w w' from Zmf h (ZbH s) hok.few.2.1)
 have htl:s.objs.length≤100000:=by
  have h1:=ZbH s;have h2:=hok.few.2.1;unfold St.objs;rw[Yr,List.length_map];omega
 obtain⟨T,hT⟩: ∃T,T=s.objs:=⟨_,rfl⟩
 obtain⟨q,hq⟩: ∃q,q=r8 s:=⟨_,rfl⟩
 rw[← hT] at HL HE HR HOB htl;rw[← hq] at HR ⊢;clear h hok hE hT hq
 go_enter Tryz.func109,Tryz.ntmps109
 go_wp2_with fail
 go_at_call 66;refine HOB.out.mono ?_;rintro e w1 ⟨v1,rfl,hO,o⟩;have O1:=ZZ o;have R1:=ZZ (show Sl w1 w1.heap.size 1 v1 T.length (i64s T) from Sl.of_own hO (by simp[i64s]));obtain⟨Am,cm,rfl,ham,hcm⟩:=Zl hO;unfold maxLen at hcm;clear o hO
 go_wp2_with fail
 go_loopw [4,8] (fun _ i wr=> ∃k:Nat,k≤T.length∧i=.int .i64 k∧Hid (Only nob w1 wr)∧Hid (∀(j:Nat) y,j<k→T[j]? =some y→Zcw T s.ws y=true)) (fun _ i _=>T.length - (intOf i).toNat)
 case atStart=>exact⟨0,Yt _,rfl,ZZ (Only.refl _ _),ZZ fun j _ hj _=>absurd hj (Nat.not_lt_zero j)⟩
 case round=>
  obtain⟨k,hk,rfl,HO,HJ⟩:=hrel;by_cases hlt:k<T.length
  · obtain⟨p,hp⟩: ∃x,T[k]? =some x:=⟨_,Ya hlt⟩
    obtain⟨b,o,rfl, -,d0⟩:=ZcP R1.out (HO.out.below (Yi _) fun _ h=>h.elim) hp;have hmem:=Yn hp;have h0:=HE.out p hmem;have hbd:=Zcg h0
    obtain⟨pn,rfl⟩: ∃pn:Nat,p=pn:=⟨p.toNat,by omega⟩
    have HP:=ZZ hp;have K1:=ZZ (HL.out.keep (O1.out.trans HO.out));have HFD:=ZZ (Zn7 K1.out pn (Zk5.2 hmem) h0 HOK.out.few.1)
    have hle:pn+1+(ohF s.ws pn).toNat≤s.ws.length:=by omega
    have HFP:=ZZ (ZgG T s.ws pn _ hle rfl)
    obtain⟨P,hP⟩: ∃P,P=Zkf s.ws (pn+1) (ohF s.ws pn).toNat:=⟨_,rfl⟩
    have hPW:Zbt P:=by rw[hP];exact HOK.out.ws.sub _ _
    have HPW:=ZZ hPW;rw[← hP] at HFD HFP;clear hmem h0 hbd hp hle hP hPW
    go_wp2_with fail
    go_at_call 144;refine HFD.out.mono ?_;rintro e w2 ⟨v2,rfl,hS,o⟩;have O2:=ZZ (HO.out.trans o);have HCF:=ZZ (Zb9 145 #[.pointer (some ⟨g,0,none⟩)] (fun x=>!leads T x) v2 P base w2 (Zip (K1.out.keep o)) hS (Yh K1.out.le o.size) HPW.out)
    obtain⟨an,han⟩: ∃an,an=P.any fun x=>!leads T x:=⟨_,rfl⟩
    rw[← han] at HCF HFP;clear o d0 hS han
    go_wp2_with fail
    go_at_call 143;refine HCF.out.mono ?_;rintro e w3 ⟨rfl,o⟩;have O3:=ZZ (O2.out.trans o);clear o
    cases an with
    |true=>
     have HQ:=ZZ (HR.out.trans (Zb3 HP.out (by rw[HFP.out];rfl)));go_wp2;go_ret;exact⟨Za (by rw[HQ.out]),O1.out.trans O3.out⟩
    |false=>
     have HN:=ZZ (ZbG HJ.out HP.out (by rw[HFP.out];rfl));go_wp2
     go_roundw
     case rel=>exact⟨k+1,by omega,by go_num,O3,HN⟩
     case measure=>simp[intOf];omega
  · obtain rfl:k=T.length:=by omega
    have HQ:=ZZ (HR.out.trans (Zc5 fun j y hj hy=>HJ.out j y hj hy));go_wp2;go_ret;exact⟨Za (by rw[HQ.out]),O1.out.trans HO.out⟩
theorem Zgc (h:Lk w base g ba ga mp n s vw vt vf vs vm s.smalls s.objs) (hok:StOk s):
 Calls Tryz.prog 110 #[.pointer (some ⟨g,0,none⟩)] w fun e w'=>e=.returned (.bool (r9 s))∧Only nob w w':=by
 have HL:=ZZ h;have HSL:=ZZ hok.sl;have HR:=ZZ (show r9 s=s.sl.all (ZgQ s.objs) from rfl);have htl:=hok.few.2.2.2;obtain⟨As,cs,rfl,has,hcs⟩:=h.rd.slots.form;unfold maxLen at hcs;have R1:=ZZ h.rd.slots;have HLE:=ZZ h.le;have c9:=h.box.c9
 obtain⟨T,hT⟩: ∃T,T=s.objs:=⟨_,rfl⟩
 obtain⟨q,hq⟩: ∃q,q=r9 s:=⟨_,rfl⟩
 rw[← hT] at HL HR;rw[← hq] at HR ⊢;clear h hok hT hq
 go_enter Tryz.func110,Tryz.ntmps110
 go_wp2_with fail
 go_loopw [4,11] (fun _ i wr=> ∃k:Nat,k≤s.sl.length∧i=.int .i64 k∧Hid (Only nob w wr)∧Hid (∀(j:Nat) y,j<k→s.sl[j]? =some y→ZgQ T y=true)) (fun _ i _=>s.sl.length - (intOf i).toNat)
 case atStart=>exact⟨0,Yt _,rfl,ZZ (Only.refl _ _),ZZ fun j _ hj _=>absurd hj (Nat.not_lt_zero j)⟩
 case round=>
  obtain⟨k,hk,rfl,HO,HJ⟩:=hrel;clear c9;by_cases hlt:k<s.sl.length
  · obtain⟨t,ht⟩: ∃x,s.sl[k]? =some x:=⟨_,Ya hlt⟩
    obtain⟨b,o,rfl, -,d0,d1,d2⟩:=ZdR R1.out (HO.out.below HLE.out fun _ h=>h.elim) ht;have HT:=ZZ ht;have hx:=(HSL.out.get ht).2.2;have HX:=ZZ hx;obtain⟨W2,hW2,HB2⟩:=Zdc t wr;have HW2:=ZZ hW2;have K2:=ZZ (HL.out.keep (HO.out.trans HB2.out.1));have HLD:=ZZ (Zci K2.out t.2.2 hx);obtain⟨u,gn,x⟩:=t;simp only at d0 d1 d2 HLD HB2 HW2
    obtain⟨ld,hld⟩: ∃l,l=leads T x:=⟨_,rfl⟩
    have HSR:=ZZ (show ZgQ T (u,gn,x)=(!u||ld) by rw[hld];rfl);rw[← hld] at HLD;have O2:=ZZ (HO.out.trans HB2.out.1);clear ht hx hld hW2
    go_upto_region 4 with fail
    rw[HW2.out];obtain⟨-, -,e0,e1,e2⟩:=HB2.out;clear d0 d1 d2
    cases u with
    |false=>
     have HN:=ZZ (ZbG HJ.out HT.out (by rw[HSR.out];rfl));go_wp2
     go_roundw
     case rel=>exact⟨k+1,by omega,by go_num,O2,HN⟩
     case measure=>simp[intOf];omega
    |true=>
     go_wp2_with fail
     go_at_call 145;refine HLD.out.mono ?_;rintro e w3 ⟨rfl,o⟩;have O3:=ZZ (O2.out.trans o);clear o e0 e1 e2
     cases ld with
     |true=>
      have HN:=ZZ (ZbG HJ.out HT.out (by rw[HSR.out];rfl));go_wp2
      go_roundw
      case rel=>exact⟨k+1,by omega,by go_num,O3,HN⟩
      case measure=>simp[intOf];omega
     |false=>
      have HQ:=ZZ (HR.out.trans (Zb3 HT.out (by rw[HSR.out];rfl)));go_wp2;go_ret;exact⟨Za (by rw[HQ.out]),O3.out⟩
  · obtain rfl:k=s.sl.length:=by omega
    have HQ:=ZZ (HR.out.trans (Zc5 fun j y hj hy=>HJ.out j y hj hy));go_wp2;go_ret;exact⟨Za (by rw[HQ.out]),HO.out⟩
end
end
end Go.Proofs.YtknoncenblehkaaGreatDoor
