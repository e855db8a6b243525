/- Package state: Check, Objects, Used, Head. -/
import Derived.Test.YteieocddfnlmdaaGreatDoorO22
set_option maxRecDepth 100000
set_option maxHeartbeats 32000000
set_option linter.unusedSimpArgs false
set_option linter.unusedVariables false
namespace Go.Proofs.YteieocddfnlmdaaGreatDoor
open Go.RowKit
theorem Zpu:ZoL 19:=by
 intro s vw vt vf vs B w h hB hok hpar;have HOK:=ZZ hok;obtain⟨At,ct,rfl,hat,hct⟩:=h.tab.form;obtain⟨Aw,cw,rfl,haw,hcw⟩:=h.words.form;obtain⟨Al,cl,rfl,hal,hcl⟩:=h.slots.form;obtain⟨Af,cf,rfl,haf,hcf⟩:=h.free.form;obtain⟨W,hW,HB⟩:=Zu w s (.slice Aw s.ws.length cw) (.slice At s.tb.length ct) (.slice Af s.fr.length cf) (.slice Al s.sl.length cl);have HW:=ZZ hW;have HLO:=ZZ (ZkK s _ _ _ _ B W (h.only HB.out.1 hB) (Yi hB HB.out.1.size) hok (hpar.old HB.out.1))
 obtain⟨q,hq⟩: ∃q,q=Zal s:=⟨_,rfl⟩
 rw[← hq] at HLO ⊢;obtain⟨c0,c1,c2,c3,c4,c5,c6,c7,c8,c9⟩:=HB.out.2.2;clear hW h hok hpar hq
 go_enter Tryz.func19,Tryz.ntmps19
 go_upto_region 1 with fail
 rw[HW.out]
 go_wp2_with fail
 go_at_call 44;refine HLO.out.mono ?_;rintro e w1 ⟨g,ba,ga,mp,n,vm,rfl, -,o⟩;have O:=ZZ (HB.out.1.trans o);clear o c0 c1 c2 c3 c4 c5 c6 c7 c8 c9;go_wp2;go_ret;exact⟨rfl,O.out⟩
theorem ZnM:Zla 26:=by
 intro s vw vt vf vs B w h hB hok hpar;have HOK:=ZZ hok;obtain⟨At,ct,rfl,hat,hct⟩:=h.tab.form;obtain⟨Aw,cw,rfl,haw,hcw⟩:=h.words.form;obtain⟨Al,cl,rfl,hal,hcl⟩:=h.slots.form;obtain⟨Af,cf,rfl,haf,hcf⟩:=h.free.form;obtain⟨W,hW,HB⟩:=Zu w s (.slice Aw s.ws.length cw) (.slice At s.tb.length ct) (.slice Af s.fr.length cf) (.slice Al s.sl.length cl);have HW:=ZZ hW;have HLO:=ZZ (ZkK s _ _ _ _ B W (h.only HB.out.1 hB) (Yi hB HB.out.1.size) hok (hpar.old HB.out.1))
 obtain⟨q,hq⟩: ∃q,q=Zal s:=⟨_,rfl⟩
 have HQ:=ZZ hq;rw[← hq] at HLO;obtain⟨c0,c1,c2,c3,c4,c5,c6,c7,c8,c9⟩:=HB.out.2.2;clear hW h hok hpar hq
 go_enter Tryz.func26,Tryz.ntmps26
 go_upto_region 1 with fail
 rw[HW.out]
 go_wp2_with fail
 go_at_call 44;refine HLO.out.mono ?_;rintro e w1 ⟨g,ba,ga,mp,n,vm,rfl,hlk,o⟩;have O:=ZZ (HB.out.1.trans o);have HLK:=ZZ hlk;clear o hlk c0 c1 c2 c3 c4 c5 c6 c7 c8 c9;by_cases hq0:q=0
 · subst hq0
   have K1:=ZZ (HLK.out rfl);have HY:=ZZ (Zbv HQ.out.symm);have HOB:=ZZ (show Calls Tryz.prog 61 #[.pointer (some ⟨g,0,none⟩)] w1 fun e w'=> ∃v',e=.returned v'∧w'.ownsRow w1.heap.size 3 1 v' s.objs.length (i64s s.objs)∧Only nob w1 w' from ZlC K1.out (ZaB s) HOK.out.few.2.1)
   go_wp2_with fail
   go_at_call 61;refine HOB.out.mono ?_;rintro e w2 ⟨v2,rfl,hO,o⟩;have O2:=ZZ (O.out.trans o);have HS:=ZZ (Sl.of_own hO (by simp[i64s]));clear hO o;go_wp2;go_ret2;exact⟨v2,(by rw[HY.out.1];rfl),(by rw[HY.out.2];exact HS.out),O2.out⟩
 · have HN:=ZZ (ZcA (s:=s) (by rw[← HQ.out];exact hq0))
   have hbq:(q !=0)=true:=by simpa using hq0
   clear hq0;go_wp2;go_ret2;exact⟨.slice none 0 0,(by rw[HN.out.1];rfl),(by rw[HN.out.2];exact Sl.nil_),O.out⟩
def zof (x:Nat):Int:=hSz (oK x) (oF x) (oR x) (oC x)
theorem Znz {x:Nat} (h:wOk x=true):zof x=1+wF x+wR x:=by
 obtain⟨h1,h2,h3, -,h5, -⟩:=Zp3 h;unfold zof;rw[h1,h2,h3,h5,ZcC (Ze8 h)]
theorem Zua {x:Nat} (h:wOk x=false):zof x=1:=by
 obtain⟨h1,h2,h3, -,h5, -⟩:=Zt0 h;unfold zof;rw[h1,h2,h3,h5];decide
theorem ZmA (x:Nat):1≤zof x∧zof x≤8193:=by
 cases h:wOk x with
 |true=>rw[Znz h];have:=ZcN h;omega
 |false=>rw[Zua h];omega
structure SameHead (P l:List Nat) (a:Int):Prop where
 e:ohE P 0=ohE l a
 k:ohK P 0=ohK l a
 f:ohF P 0=ohF l a
 r:ohR P 0=ohR l a
 m:ohM P 0=ohM l a
 c:ohC P 0=ohC l a
theorem Zfq {P l:List Nat} {a:Int} (he:ohE P 0=ohE l a) (hw:ohE l a=0→wd P 0=wd l a.toNat):SameHead P l a:=by
 by_cases h0:ohE l a=0
 · have h1:ohE P 0=0:=he.trans h0
   have hw':=hw h0;have e0:((0:Int)).toNat=0:=rfl;refine⟨he,?_,?_,?_,?_,?_⟩
   · unfold ohK;rw[if_pos h1,if_pos h0,e0,hw']
   · unfold ohF;rw[if_pos h1,if_pos h0,e0,hw']
   · unfold ohR;rw[if_pos h1,if_pos h0,e0,hw']
   · unfold ohM;rw[if_pos h1,if_pos h0,e0,hw']
   · unfold ohC;rw[if_pos h1,if_pos h0,e0,hw']
 · obtain⟨a1,a2,a3,a4,a5⟩:=Zcv h0
   obtain⟨b1,b2,b3,b4,b5⟩:=Zcv (l:=P) (a:=0) (by rw[he];exact h0);exact⟨he,by rw[a1,b1],by rw[a2,b2],by rw[a3,b3],by rw[a4,b4],by rw[a5,b5]⟩
theorem Zeo {l:List Nat} {a:Int} (h: ¬(0≤a∧a<(l.length:Int))):SameHead [] l a:=by
 have h1:ohE l a=2:=Zk0 h;have h2:ohE [] 0=2:=Zk0 (by simp)
 exact Zfq (h2.trans h1.symm) fun h0=>by rw[h1] at h0;cases h0
theorem Zih {l:List Nat} {n m:Nat} (hn:n<l.length) (hm1:1≤m) (hml:n+m≤l.length) (hz:(m:Int)=zof (wd l n)∨((m:Int)=(l.length:Int) - n∧(m:Int)<zof (wd l n))):SameHead (part l n m) l n:=by
 have hlen:(part l n m).length=m:=ZaX l n m hml
 have hw0:wd (part l n m) 0=wd l n:=by
  have:=Zhk l n m 0 hml hm1
  rw[Nat.add_zero] at this;unfold wd;rw[Yn,this];rfl
 have hi:0≤(n:Int)∧(n:Int)<(l.length:Int):=by omega
 have hj:(0:Int)≤0∧(0:Int)<((part l n m).length:Int):=by rw[hlen];omega
 have e0:((0:Int)).toNat=0:=rfl;have en:((n:Nat):Int).toNat=n:=rfl
 refine Zfq ?_ fun _=>by rw[en];exact hw0
 cases hk:wOk (wd l n) with
 |false=>rw[Zlg hi (by rw[en];exact hk),Zlg hj (by rw[e0,hw0];exact hk)]
 |true=>
  have hzy:=Znz hk;by_cases hf:1+wF (wd l n)+wR (wd l n)≤(l.length:Int) - n
  · rw[Zkr ⟨hn,hk,hf⟩]
    have:=Zkr (l:=part l n m) (a:=0) ⟨by rw[hlen];omega,by rw[hw0];exact hk,by rw[hw0,hlen];rcases hz with hz|hz <;> omega⟩
    exact this
  · rw[ZlD hi (by rw[en];exact hk) (by rw[en];exact hf)]
    exact ZlD hj (by rw[e0,hw0];exact hk) (by rw[e0,hw0,hlen];rcases hz with hz|hz <;> omega)
theorem ZnP (v:Value) (l:List Nat) (a:Int) (B:Nat) (w:World) (h:Sl w B 1 v l.length (u64s l)) (hB:B≤w.heap.size) (hl:l.length≤98304) (hw:Za1 l) (hp:Par w):
 Calls Tryz.prog 107 #[v,.int .i64 a] w fun e w'=> ∃v' P,e=.returned v'∧Sl w' B 1 v' P.length (u64s P)∧P.length≤98304∧Za1 P∧SameHead P l a∧Only nob w w':=by
 obtain⟨A,c,rfl,hac,hcm⟩:=h.form;have HS:=ZZ h;have HP:=ZZ hp;by_cases h1:a<0
 · have HH:=ZZ (Zeo (l:=l) (a:=a) (by omega))
   clear h hp hw
   go_enter Tryz.func107,Tryz.ntmps107
   go_wp2;go_ret
   first
   |exact⟨_,[],rfl,Sl.nil_,by simp,(fun _ h=>by cases h),HH.out,Only.refl _ _⟩
   |exact⟨_,rfl,[],Sl.nil_,by simp,(fun _ h=>by cases h),HH.out,Only.refl _ _⟩
 by_cases h2:a<(l.length:Int)
 · obtain⟨n,rfl⟩: ∃n:Nat,a=n:=⟨a.toNat,by omega⟩
   have hn:n<l.length:=by omega
   obtain⟨x,hx⟩: ∃x,l[n]? =some x:=⟨_,Ya hn⟩
   have hwx:wd l n=x:=by unfold wd;rw[Yn,hx];rfl
   obtain⟨b,o,rfl, -,d0⟩:=Zg6 h (Below.refl _ _) hx;have hxf:x<full:=hw x (Yo hx);have HD:=ZZ (Zrj hxf w hp);have hzb:=ZmA x;have HSZ:=ZZ (show ∀w,Par w→Calls Tryz.prog 145 #[.agg #[.int .i64 (oK x),.int .i64 (oF x),.int .i64 (oR x),.bool (oM x),.int .i64 (oC x)]] w fun e w'=>e=.returned (.int .i64 (zof x))∧Only nob w w' from fun w hp=>Zbo _ _ _ _ _ w hp);have HROW:=ZZ (fun (m:Nat) (h1:1≤m) (h2:n+m≤l.length) (h3:(m:Int)=zof x∨((m:Int)=(l.length:Int) - n∧(m:Int)<zof x))=>Zih hn h1 h2 (by rw[hwx];exact h3))
   have hcut: ∀(m:Nat),n+m≤c→ ∀w:World,(Instr.sliceAt 24 (.slice (some ⟨b,o,none⟩) l.length c) (some (.int .i64 ((n:Nat):Int))) (some (.int .i64 ((n:Int)+(m:Int)))) none).run Tryz.prog w=.ok (Zc1 (some ⟨b,o,none⟩) n (n+m) c 1) w:=fun m hm w=>by
    obtain⟨i,hi, -,h1, -⟩:=info_parts ZeP
    have:=Zea Tryz.underlying24 hi (some ⟨b,o,none⟩) l.length c n (n+m) (by omega) hm w
    rw[h1] at this;exact this
   obtain⟨z,hz⟩: ∃z,z=zof x:=⟨_,rfl⟩
   rw[← hz] at HSZ HROW hzb
   obtain⟨K,hK⟩: ∃k,k=oK x:=⟨_,rfl⟩
   obtain⟨F,hF⟩: ∃k,k=oF x:=⟨_,rfl⟩
   obtain⟨R,hR⟩: ∃k,k=oR x:=⟨_,rfl⟩
   obtain⟨M,hM⟩: ∃k,k=oM x:=⟨_,rfl⟩
   obtain⟨C,hC⟩: ∃k,k=oC x:=⟨_,rfl⟩
   obtain⟨E,hE⟩: ∃k,k=oE x:=⟨_,rfl⟩
   rw[← hK, ← hF, ← hR, ← hM, ← hC] at HD HSZ;rw[← hE] at HD;have HWW:=ZZ hw;have HCUT:=ZZ hcut;clear h hp hx hwx hxf hz hK hF hR hM hC hE hw hcut;unfold maxLen at hcm
   go_enter Tryz.func107,Tryz.ntmps107
   go_wp2_with fail
   go_at_call 144;refine HD.out.mono ?_;rintro e w1 ⟨rfl,o1⟩;obtain⟨W3,hW3,HB3⟩:=Zz w1 K F R M C;have HW3:=ZZ hW3;have O3:=ZZ (o1.trans HB3.out.1);clear hW3 o1 d0
   go_upto_region 4 with fail
   rw[HW3.out];obtain⟨c0,c1,c2,c3,c4⟩:=Zj HB3.out.2
   go_wp2_with fail
   go_at_call 145;refine(HSZ.out _ (HP.out.old O3.out)).mono ?_;rintro e w4 ⟨rfl,o4⟩;have O4:=ZZ (O3.out.trans o4);clear o4 c0 c1 c2 c3 c4;by_cases hm:z≤(l.length:Int) - n
   · obtain⟨zn,rfl⟩: ∃zn:Nat,z=zn:=⟨z.toNat,by omega⟩
     have hmin:min (zn:Int) ((l.length:Int) - n)=zn:=by omega
     have hcut:=HCUT.out zn (by omega);have HH:=ZZ (HROW.out zn (by omega) (by omega) (.inl rfl));go_wp2;go_ret;have h1:=(HS.out.below (O4.out.below hB fun _ h=>h.elim)).cut (l:=n) (k:=n+zn) (by omega) (by omega)
     have h4:((u64s l).drop (n * 1)).take ((n+zn - n) * 1)=u64s (part l n zn):=by
      unfold u64s part;rw[List.map_take,List.map_drop];congr 1 <;> simp
     rw[h4] at h1
     have h5:n+zn - n=(part l n zn).length:=by rw[ZaX _ _ _ (by omega)];omega
     rw[h5] at h1;exact⟨_,part l n zn,rfl,h1,by rw[ZaX _ _ _ (by omega)];omega,HWW.out.sub _ _,HH.out,O4.out⟩
   · obtain⟨zn,hzn⟩: ∃zn:Nat,(zn:Int)=(l.length:Int) - n:=⟨l.length - n,by omega⟩
     have hmin:min z ((l.length:Int) - n)=(l.length:Int) - n:=by omega
     have hcut:=HCUT.out zn (by omega);rw[hzn] at hcut;have HH:=ZZ (HROW.out zn (by omega) (by omega) (.inr ⟨hzn,by omega⟩));have HZN:=ZZ hzn;clear hzn;go_wp2;go_ret;have hzn:=HZN.out;have h1:=(HS.out.below (O4.out.below hB fun _ h=>h.elim)).cut (l:=n) (k:=n+zn) (by omega) (by omega)
     have h4:((u64s l).drop (n * 1)).take ((n+zn - n) * 1)=u64s (part l n zn):=by
      unfold u64s part;rw[List.map_take,List.map_drop];congr 1 <;> simp
     rw[h4] at h1
     have h5:n+zn - n=(part l n zn).length:=by rw[ZaX _ _ _ (by omega)];omega
     rw[h5] at h1;exact⟨_,part l n zn,rfl,h1,by rw[ZaX _ _ _ (by omega)];omega,HWW.out.sub _ _,HH.out,O4.out⟩
 · have HH:=ZZ (Zeo (l:=l) (a:=a) (by omega))
   clear h hp hw
   go_enter Tryz.func107,Tryz.ntmps107
   go_wp2;go_ret
   first
   |exact⟨_,[],rfl,Sl.nil_,by simp,(fun _ h=>by cases h),HH.out,Only.refl _ _⟩
   |exact⟨_,rfl,[],Sl.nil_,by simp,(fun _ h=>by cases h),HH.out,Only.refl _ _⟩
theorem ZuE:Zu2 63:=by
 intro s a vw vt vf vs B w h hB hok hpar;obtain⟨At,ct,rfl,hat,hct⟩:=h.tab.form;obtain⟨Aw,cw,rfl,haw,hcw⟩:=h.words.form;obtain⟨Al,cl,rfl,hal,hcl⟩:=h.slots.form;obtain⟨Af,cf,rfl,haf,hcf⟩:=h.free.form;obtain⟨W,hW,HB⟩:=Zu w s (.slice Aw s.ws.length cw) (.slice At s.tb.length ct) (.slice Af s.fr.length cf) (.slice Al s.sl.length cl);have HW:=ZZ hW;obtain⟨W2,hW2,HB2⟩:=ZI W;have HW2:=ZZ hW2
 have hsz:W.heap.size=w.heap.size+1:=by rw[← hW];simp
 rw[hsz] at HB2
 obtain⟨k,hkk⟩: ∃k,k=ohK s.ws a:=⟨_,rfl⟩
 obtain⟨f,hf⟩: ∃k,k=ohF s.ws a:=⟨_,rfl⟩
 obtain⟨r,hr⟩: ∃k,k=ohR s.ws a:=⟨_,rfl⟩
 obtain⟨m,hm'⟩: ∃k,k=ohM s.ws a:=⟨_,rfl⟩
 obtain⟨c,hc⟩: ∃k,k=ohC s.ws a:=⟨_,rfl⟩
 obtain⟨E,hE⟩: ∃k,k=ohE s.ws a:=⟨_,rfl⟩
 have HNM:=ZZ (And.intro hkk (And.intro hf (And.intro hr (And.intro hm' (And.intro hc hE)))));rw[← hkk, ← hf, ← hr, ← hm', ← hc, ← hE];have O2:=ZZ (HB.out.1.trans HB2.out.1);have X2:=ZZ (HB.out.2.2.keep HB2.out.1);have HPAR:=ZZ hpar;have HROW:=ZZ (ZnP (.slice Aw s.ws.length cw) s.ws a B W2 (h.words.below (O2.out.below hB fun _ h=>h.elim)) (Yi hB O2.out.size) hok.few.1 hok.ws (hpar.old O2.out));have hwl:w.heap.size≤w.heap.size+1:=Nat.le_succ _
 have hfew:(s.ws.length:Int)≤98304:=by have:=hok.few.1;omega
 have c5:=X2.out.c5;clear hW hW2 h hok hpar hkk hf hr hm' hc hE
 go_enter Tryz.func63,Tryz.ntmps63
 go_upto_region 1 with fail
 rw[HW.out,HW2.out]
 go_wp2_with fail
 go_at_call 107;refine HROW.out.mono ?_;rintro e w3 ⟨v3,P,rfl,hS,hPl,hPw,hPH,o⟩;have O3:=ZZ (O2.out.trans o);have B3:=ZZ (HB2.out.2.keep o id);have HOF:=ZZ (ZrZ v3 P w3 (hS.more (Yi hB O3.out.size)) hPl hPw);have HPH:=ZZ hPH;clear o c5 hS hPl hPw hPH
 go_wp2_with fail
 go_at_call 89;refine HOF.out.mono ?_;rintro e w4 ⟨ba,ga,rfl,hba,hga,hAr,o⟩;have O4:=ZZ (O3.out.trans o);have B4:=ZZ (B3.out.keep o id);have HH:=ZZ (ZdD ba ga P 0 w4 hAr (HPAR.out.old O4.out) (by omega));have hq:=HPH.out;obtain⟨n1,n2,n3,n4,n5,n6⟩:=HNM.out;rw[hq.e,hq.k,hq.f,hq.r,hq.m,hq.c, ← n1, ← n2, ← n3, ← n4, ← n5, ← n6] at HH;clear o hba hga hAr hq n1 n2 n3 n4 n5 n6
 go_wp2_with fail
 go_at_call 108;refine HH.out.mono ?_;rintro e w5 ⟨rfl,o⟩;have O5:=ZZ (O4.out.trans o);have B5:=ZZ (B4.out.keep o id);clear o;obtain⟨s0,s1,s2,s3,s4⟩:=Zj B5.out;obtain⟨r0,r1,r2,r3,r4⟩:=ZaG B5.out;go_wp2;clear s0 s1 s2 s3 s4 r0 r1 r2 r3 r4;obtain⟨W6,hW6,O6,B6⟩:=Zbw O5.out hwl B5.out (.int .i64 k) (.int .i64 f) (.int .i64 r) (.bool m) (.int .i64 c)
 with_reducible rw[hW6]
 obtain⟨h0,h1,h2,h3,h4⟩:=Zj B6;exact bodyPost_ret (v:=.tuple #[.agg #[.int .i64 k,.int .i64 f,.int .i64 r,.bool m,.int .i64 c],.int .i64 E]) (by simp[results,Tryz.results63,go_sem,h0,h1,h2,h3,h4]) rfl ⟨rfl,O6⟩
def ZaI (s:St) (vw vt vf vs:Value):Array Value:=#[.int .i64 s.cf.semi,.int .i64 s.cf.large,.int .i64 s.cf.slots,.int .i64 s.cf.limit,.bool s.sec,vw,.int .i64 s.top,vt,vf,vs]
theorem ZrA {w:World} {b:Nat} {s:St} {vw vt vf vs:Value} (h:Blk w b 28 (ZaI s vw vt vf vs)):SBox w b s vw vt vf vs:=SBox.of h
theorem ZuO {w0 w:World} {b:Nat} {s:St} {vw vt vf vs:Value} (o:Only nob w0 w) (hb:w0.heap.size≤b) (h:Blk w b 28 (ZaI s vw vt vf vs)) (u:Value): ∃W,w.setCell ⟨b,5,none⟩ u=W∧Hid (Only nob w0 W∧Only (isb b) w W∧Blk W b 28 (ZaI s u vt vf vs)):=
 ⟨_,rfl,ZZ ⟨Zm o hb u,Zd w b 5 u,by simpa[ZaI] using h.put 5 u⟩⟩
theorem Zvc {w0 w:World} {b:Nat} {s:St} {vw vt vf vs:Value} (o:Only nob w0 w) (hb:w0.heap.size≤b) (h:Blk w b 28 (ZaI s vw vt vf vs)) (u:Value): ∃W,w.setCell ⟨b,7,none⟩ u=W∧Hid (Only nob w0 W∧Only (isb b) w W∧Blk W b 28 (ZaI s vw u vf vs)):=
 ⟨_,rfl,ZZ ⟨Zm o hb u,Zd w b 7 u,by simpa[ZaI] using h.put 7 u⟩⟩
theorem Zu9 {w0 w:World} {b:Nat} {s:St} {vw vt vf vs:Value} (o:Only nob w0 w) (hb:w0.heap.size≤b) (h:Blk w b 28 (ZaI s vw vt vf vs)) (u:Value): ∃W,w.setCell ⟨b,8,none⟩ u=W∧Hid (Only nob w0 W∧Only (isb b) w W∧Blk W b 28 (ZaI s vw vt u vs)):=
 ⟨_,rfl,ZZ ⟨Zm o hb u,Zd w b 8 u,by simpa[ZaI] using h.put 8 u⟩⟩
theorem Zu4 {w0 w:World} {b:Nat} {s:St} {vw vt vf vs:Value} (o:Only nob w0 w) (hb:w0.heap.size≤b) (h:Blk w b 28 (ZaI s vw vt vf vs)) (u:Value): ∃W,w.setCell ⟨b,9,none⟩ u=W∧Hid (Only nob w0 W∧Only (isb b) w W∧Blk W b 28 (ZaI s vw vt vf u)):=
 ⟨_,rfl,ZZ ⟨Zm o hb u,Zd w b 9 u,by simpa[ZaI] using h.put 9 u⟩⟩
theorem Znq {w W:World} {b:Nat} {t:TypeId} (o:Only nob w W) (hb:w.heap.size≤b) {z0 z1 z2 z3 z4 z5 z6 z7 z8 z9:Value} (B:Blk W b t #[z0,z1,z2,z3,z4,z5,z6,z7,z8,z9]) (x0 x1 x2 x3 x4 x5 x6 x7 x8 x9:Value):
 ∃W4,((((((((((W.setCell ⟨b,0,none⟩ x0).setCell ⟨b,1,none⟩ x1).setCell ⟨b,2,none⟩ x2).setCell ⟨b,3,none⟩ x3).setCell ⟨b,4,none⟩ x4).setCell ⟨b,5,none⟩ x5).setCell ⟨b,6,none⟩ x6).setCell ⟨b,7,none⟩ x7).setCell ⟨b,8,none⟩ x8).setCell ⟨b,9,none⟩ x9)=W4∧Only nob w W4∧Only (isb b) W W4∧Blk W4 b t #[x0,x1,x2,x3,x4,x5,x6,x7,x8,x9]:=by
 refine⟨_,rfl,Zm (Zm (Zm (Zm (Zm (Zm (Zm (Zm (Zm (Zm o hb _) hb _) hb _) hb _) hb _) hb _) hb _) hb _) hb _) hb _,?_,?_⟩
 · exact(((((((((Zd _ b 0 _).trans (Zd _ b 1 _)).trans (Zd _ b 2 _)).trans (Zd _ b 3 _)).trans (Zd _ b 4 _)).trans (Zd _ b 5 _)).trans (Zd _ b 6 _)).trans (Zd _ b 7 _)).trans (Zd _ b 8 _)).trans (Zd _ b 9 _)
 · simpa using(((((((((B.put 0 x0).put 1 x1).put 2 x2).put 3 x3).put 4 x4).put 5 x5).put 6 x6).put 7 x7).put 8 x8).put 9 x9
theorem ZbM {w:World} {b:Nat} {t:TypeId} {x0 x1 x2 x3 x4 x5 x6 x7 x8 x9:Value} (h:Blk w b t #[x0,x1,x2,x3,x4,x5,x6,x7,x8,x9]):
 w.cell? ⟨b,0,none⟩=some x0∧w.cell? ⟨b,1,none⟩=some x1∧w.cell? ⟨b,2,none⟩=some x2∧w.cell? ⟨b,3,none⟩=some x3∧w.cell? ⟨b,4,none⟩=some x4∧w.cell? ⟨b,5,none⟩=some x5∧w.cell? ⟨b,6,none⟩=some x6∧w.cell? ⟨b,7,none⟩=some x7∧w.cell? ⟨b,8,none⟩=some x8∧w.cell? ⟨b,9,none⟩=some x9:=
 ⟨h.cell 0,h.cell 1,h.cell 2,h.cell 3,h.cell 4,h.cell 5,h.cell 6,h.cell 7,h.cell 8,h.cell 9⟩
theorem Zhy {w:World} {b:Nat} {t:TypeId} {cs:Array Value} (h:Blk w b t cs):
 w.frozen? ⟨b,0,none⟩=false∧w.frozen? ⟨b,1,none⟩=false∧w.frozen? ⟨b,2,none⟩=false∧w.frozen? ⟨b,3,none⟩=false∧w.frozen? ⟨b,4,none⟩=false∧w.frozen? ⟨b,5,none⟩=false∧w.frozen? ⟨b,6,none⟩=false∧w.frozen? ⟨b,7,none⟩=false∧w.frozen? ⟨b,8,none⟩=false∧w.frozen? ⟨b,9,none⟩=false:=
 ⟨h.free 0,h.free 1,h.free 2,h.free 3,h.free 4,h.free 5,h.free 6,h.free 7,h.free 8,h.free 9⟩
theorem Zd3 (w:World): ∃W,w.alloc (.cells #[.int .i64 0,.int .i64 0,.int .i64 0,.int .i64 0,.bool false,.slice none 0 0,.int .i64 0,.slice none 0 0,.slice none 0 0,.slice none 0 0] 28)=W∧Hid (Only nob w W∧Blk W w.heap.size 28 #[.int .i64 0,.int .i64 0,.int .i64 0,.int .i64 0,.bool false,.slice none 0 0,.int .i64 0,.slice none 0 0,.slice none 0 0,.slice none 0 0]):=
 ⟨_,rfl,ZZ ⟨(Only.refl nob w).alloc _,Blk.new w _ _⟩⟩
theorem Z0 {w w':World} {b:Nat} {E:TypeId} {z n:Nat} {v:Value} {xs:List Value} (h:w'.ownsRow w.heap.size E z v n xs) (hb:b<w.heap.size): ∀k,v.ownBlock=some k→ ¬isb b k:=fun k hk e=>by
 have:=(Zl h hk).1
 unfold isb at e;omega
theorem Zt3:ZuJ 24:=by
 intro s vw vt vf vs B w h hB hok;have HR:=ZZ h;have HF:=ZZ hok.few;obtain⟨At,ct,rfl,hat,hct⟩:=h.tab.form;obtain⟨Aw,cw,rfl,haw,hcw⟩:=h.words.form;obtain⟨Al,cl,rfl,hal,hcl⟩:=h.slots.form;obtain⟨Af,cf,rfl,haf,hcf⟩:=h.free.form;obtain⟨W,hW,HB⟩:=Zu w s (.slice Aw s.ws.length cw) (.slice At s.tb.length ct) (.slice Af s.fr.length cf) (.slice Al s.sl.length cl);have HW:=ZZ hW;obtain⟨W2,hW2,HB2⟩:=Zd3 W;have HW2:=ZZ hW2;have O2:=ZZ (HB.out.1.trans HB2.out.1)
 obtain⟨p,hp⟩: ∃p,p=w.heap.size:=⟨_,rfl⟩
 have hsz:W.heap.size=w.heap.size+1:=by rw[← hW];simp
 obtain⟨q,hq⟩: ∃q,q=p+1:=⟨_,rfl⟩
 have hqW:q=W.heap.size:=by omega
 have HP:=ZZ hp;have HQ:=ZZ hq;have B2:=ZZ (show Blk W2 p 28 (ZaI s (.slice Aw s.ws.length cw) (.slice At s.tb.length ct) (.slice Af s.fr.length cf) (.slice Al s.sl.length cl)) from by rw[hp];exact HB.out.2.1.keep HB2.out.1 id);have Z2:=ZZ HB2.out.2;rw[← hqW] at Z2
 have hpq:p<q:=by have:=HB.out.2.1.lt;omega
 have hq2:q<W2.heap.size:=by have:=HB2.out.2.lt;omega
 obtain⟨c0,c1,c2,c3,c4,c5,c6,c7,c8,c9⟩:=ZrA B2.out;have r5:=B2.out.free 5;clear hW hW2 h hok hp hq hsz hqW
 go_enter Tryz.func24,Tryz.ntmps24
 go_upto_region 1 with fail
 rw[HW.out,HW2.out, ← HP.out, ← HQ.out]
 go_wp2_with fail
 go_at_call 53;refine(ZfD (.slice Aw s.ws.length cw) s.ws B W2 (HR.out.words.below (O2.out.below hB fun _ h=>h.elim)) (Yi hB O2.out.size) (by have:=HF.out;omega)).mono ?_;rintro e w3 ⟨v3,rfl,hO,o⟩;obtain⟨A3,k3,rfl, -, -⟩:=Zi hO;have B3:=B2.out.keep o id;have Z3:=Z2.out.keep o id;have O3:=O2.out.trans o;obtain⟨W3,hW3,HB3⟩:=ZuO O3 (by rw[HP.out];exact Yj _) B3 (.slice A3 s.ws.length k3);have HW3:=ZZ hW3;have R3:=ZZ (Zb hO HB3.out.2.1 (Z0 hO (by omega)));have L3:=ZZ (show W2.heap.size≤W3.heap.size from Yi o.size HB3.out.2.1.size);have Z3':=ZZ (Z3.keep HB3.out.2.1 (by unfold isb;omega));have d5:w3.cell? ⟨p,5,none⟩=some (.slice Aw s.ws.length cw):=B3.cell 5;have d5f:=B3.free 5;clear hO o B3 Z3 O3 hW3 c0 c1 c2 c3 c4 c5 c6 c7 c8 c9 r5
 go_upto_region 2 with fail
 rw[HW3.out];clear d5 d5f;have c7:W3.cell? ⟨p,7,none⟩=some (.slice At s.tb.length ct):=HB3.out.2.2.cell 7
 go_wp2_with fail
 go_at_call 54;refine(Zde (.slice At s.tb.length ct) s.tb B W3 (HR.out.tab.below (HB3.out.1.below hB fun _ h=>h.elim)) (Yi hB HB3.out.1.size) (by have:=HF.out;omega)).mono ?_;rintro e w4 ⟨v4,rfl,hO,o⟩;obtain⟨A4,k4,rfl, -, -⟩:=Zi hO;have B4:=HB3.out.2.2.keep o id;obtain⟨W4,hW4,HB4⟩:=Zvc (HB3.out.1.trans o) (by rw[HP.out];exact Yj _) B4 (.slice A4 s.tb.length k4);have HW4:=ZZ hW4;have R4:=ZZ (Zb hO HB4.out.2.1 (Z0 hO (by have:=L3.out;omega)));have R34:=ZZ (Zb (Zb R3.out o fun _ _=>id) HB4.out.2.1 (Z0 R3.out (by omega)));have L4:=ZZ (show W3.heap.size≤W4.heap.size from Yi o.size HB4.out.2.1.size);have Z4:=ZZ ((Z3'.out.keep o id).keep HB4.out.2.1 (by unfold isb;omega));have d7:w4.cell? ⟨p,7,none⟩=some (.slice At s.tb.length ct):=B4.cell 7;have d7f:=B4.free 7;clear hO o B4 hW4 c7
 go_upto_region 3 with fail
 rw[HW4.out];clear d7 d7f;have c8:W4.cell? ⟨p,8,none⟩=some (.slice Af s.fr.length cf):=HB4.out.2.2.cell 8
 go_wp2_with fail
 go_at_call 54;refine(Zde (.slice Af s.fr.length cf) s.fr B W4 (HR.out.free.below (HB4.out.1.below hB fun _ h=>h.elim)) (Yi hB HB4.out.1.size) (by have:=HF.out;omega)).mono ?_;rintro e w5 ⟨v5,rfl,hO,o⟩;obtain⟨A5,k5,rfl, -, -⟩:=Zi hO;have B5:=HB4.out.2.2.keep o id;obtain⟨W5,hW5,HB5⟩:=Zu9 (HB4.out.1.trans o) (by rw[HP.out];exact Yj _) B5 (.slice A5 s.fr.length k5);have HW5:=ZZ hW5;have R5:=ZZ (Zb hO HB5.out.2.1 (Z0 hO (by have:=L3.out;have:=L4.out;omega)));have R45:=ZZ (Zb (Zb R4.out o fun _ _=>id) HB5.out.2.1 (Z0 R4.out (by have:=L3.out;omega)));have R35:=ZZ (Zb (Zb R34.out o fun _ _=>id) HB5.out.2.1 (Z0 R34.out (by omega)));have L5:=ZZ (show W4.heap.size≤W5.heap.size from Yi o.size HB5.out.2.1.size);have Z5:=ZZ ((Z4.out.keep o id).keep HB5.out.2.1 (by unfold isb;omega))
 have HAP:=ZZ (show ∀k,(Value.slice A4 s.tb.length k4).ownBlock=some k→(Value.slice A5 s.fr.length k5).ownBlock≠some k from fun k h1 h2=>by
  have a1:=(Zl R4.out h1).2;have a2:=(Zl hO h2).1
  omega)
 have d8:w5.cell? ⟨p,8,none⟩=some (.slice Af s.fr.length cf):=B5.cell 8;have d8f:=B5.free 8;clear hO o B5 hW5 c8
 go_upto_region 4 with fail
 rw[HW5.out];clear d8 d8f;have c9:W5.cell? ⟨p,9,none⟩=some (.slice Al s.sl.length cl):=HB5.out.2.2.cell 9
 go_wp2_with fail
 go_at_call 55;refine(Zj3 (.slice Al s.sl.length cl) s.sl B W5 (HR.out.slots.below (HB5.out.1.below hB fun _ h=>h.elim)) (Yi hB HB5.out.1.size) (by have:=HF.out;omega)).mono ?_;rintro e w6 ⟨v6,rfl,hO,o⟩;obtain⟨A6,k6,rfl, -, -⟩:=Zi hO;have B6:=HB5.out.2.2.keep o id;obtain⟨W6,hW6,HB6⟩:=Zu4 (HB5.out.1.trans o) (by rw[HP.out];exact Yj _) B6 (.slice A6 s.sl.length k6);have HW6:=ZZ hW6;have R6:=ZZ (Zb hO HB6.out.2.1 (Z0 hO (by have:=L3.out;have:=L4.out;have:=L5.out;omega)));have R56:=ZZ (Zb (Zb R5.out o fun _ _=>id) HB6.out.2.1 (Z0 R5.out (by have:=L3.out;have:=L4.out;omega)));have R46:=ZZ (Zb (Zb R45.out o fun _ _=>id) HB6.out.2.1 (Z0 R45.out (by have:=L3.out;omega)));have R36:=ZZ (Zb (Zb R35.out o fun _ _=>id) HB6.out.2.1 (Z0 R35.out (by omega)));have Z6:=ZZ ((Z5.out.keep o id).keep HB6.out.2.1 (by unfold isb;omega));have d9:w6.cell? ⟨p,9,none⟩=some (.slice Al s.sl.length cl):=B6.cell 9;have d9f:=B6.free 9;clear hO o B6 hW6 c9
 go_upto_region 5 with fail
 rw[HW6.out];clear d9 d9f;obtain⟨c0,c1,c2,c3,c4,c5,c6,c7,c8,c9⟩:=ZrA HB6.out.2.2;obtain⟨e0,e1,e2,e3,e4,e5,e6,e7,e8,e9⟩:=ZbM Z6.out;obtain⟨f0,f1,f2,f3,f4,f5,f6,f7,f8,f9⟩:=Zhy Z6.out;go_wp2;clear c0 c1 c2 c3 c4 c5 c6 c7 c8 c9 e0 e1 e2 e3 e4 e5 e6 e7 e8 e9 f0 f1 f2 f3 f4 f5 f6 f7 f8 f9;obtain⟨W7,hW7,O7,OI7,B7⟩:=Znq HB6.out.1 (show w.heap.size≤q by have:=HP.out;omega) Z6.out (.int .i64 s.cf.semi) (.int .i64 s.cf.large) (.int .i64 s.cf.slots) (.int .i64 s.cf.limit) (.bool s.sec) (.slice A3 s.ws.length k3) (.int .i64 s.top) (.slice A4 s.tb.length k4) (.slice A5 s.fr.length k5) (.slice A6 s.sl.length k6)
 with_reducible rw[hW7]
 obtain⟨h0,h1,h2,h3,h4,h5,h6,h7,h8,h9⟩:=ZbM B7;have l2:w.heap.size≤W2.heap.size:=O2.out.size;have l3:=L3.out;have l4:=L4.out;have l5:=L5.out;have g: ∀{E:TypeId} {z n:Nat} {v:Value} {xs:List Value} {X:World},w.heap.size≤X.heap.size→q<X.heap.size→W6.ownsRow X.heap.size E z v n xs→W7.ownsRow w.heap.size E z v n xs:=fun hX hqX hr=>ZE (Zb hr OI7 (Z0 hr hqX)) fun k hk=>Yi hX (Zl hr hk).1;exact bodyPost_ret (v:=.agg #[.int .i64 s.cf.semi,.int .i64 s.cf.large,.int .i64 s.cf.slots,.int .i64 s.cf.limit,.bool s.sec,.slice A3 s.ws.length k3,.int .i64 s.top,.slice A4 s.tb.length k4,.slice A5 s.fr.length k5,.slice A6 s.sl.length k6]) (by simp[results,Tryz.results24,go_sem,h0,h1,h2,h3,h4,h5,h6,h7,h8,h9]) rfl ⟨_,_,_,_,rfl,⟨g l2 hq2 R36.out,g (by omega) (by omega) R46.out,g (by omega) (by omega) R56.out,g (by omega) (by omega) R6.out,HAP.out⟩,O7⟩
end Go.Proofs.YteieocddfnlmdaaGreatDoor
