/- Package state: Check, Objects, Used, Head. New heaps: blocks of their own, what they hold. -/
import Derived.Test.YtknoncenblehkaaGreatDoorF20
set_option maxRecDepth 100000
set_option maxHeartbeats 32000000
set_option linter.unusedSimpArgs false
set_option linter.unusedVariables false
namespace Go.Proofs.YtknoncenblehkaaGreatDoor
open Go.RowKit
theorem Zou:ZmR 16:=by
 intro s vw vt vf vs B w h hB hok hpar;have HOK:=ZZ hok;obtain⟨At,ct,rfl,hat,hct⟩:=h.tab.form;obtain⟨Aw,cw,rfl,haw,hcw⟩:=h.words.form;obtain⟨Al,cl,rfl,hal,hcl⟩:=h.slots.form;obtain⟨Af,cf,rfl,haf,hcf⟩:=h.free.form;obtain⟨W,hW,HB⟩:=ZW w s (.slice Aw s.ws.length cw) (.slice At s.tb.length ct) (.slice Af s.fr.length cf) (.slice Al s.sl.length cl);have HW:=ZZ hW;have HLO:=ZZ (ZjU s _ _ _ _ B W (h.only HB.out.1 hB) (Yi hB HB.out.1.size) hok (hpar.old HB.out.1))
 obtain⟨q,hq⟩: ∃q,q=Zbh s:=⟨_,rfl⟩
 rw[← hq] at HLO ⊢;obtain⟨c0,c1,c2,c3,c4,c5,c6,c7,c8,c9⟩:=HB.out.2.2;clear hW h hok hpar hq
 go_enter Tryz.func16,Tryz.ntmps16
 go_upto_region 1 with fail
 rw[HW.out]
 go_wp2_with fail
 go_at_call 43;refine HLO.out.mono ?_;rintro e w1 ⟨g,ba,ga,mp,n,vm,rfl, -,o⟩;have O:=ZZ (HB.out.1.trans o);clear o c0 c1 c2 c3 c4 c5 c6 c7 c8 c9;go_wp2;go_ret;exact⟨rfl,O.out⟩
theorem ZoP:Zqb 37:=by
 intro s vw vt vf vs B w h hB hok hpar;have HOK:=ZZ hok;obtain⟨At,ct,rfl,hat,hct⟩:=h.tab.form;obtain⟨Aw,cw,rfl,haw,hcw⟩:=h.words.form;obtain⟨Al,cl,rfl,hal,hcl⟩:=h.slots.form;obtain⟨Af,cf,rfl,haf,hcf⟩:=h.free.form;obtain⟨W,hW,HB⟩:=ZW w s (.slice Aw s.ws.length cw) (.slice At s.tb.length ct) (.slice Af s.fr.length cf) (.slice Al s.sl.length cl);have HW:=ZZ hW;have HLO:=ZZ (ZjU s _ _ _ _ B W (h.only HB.out.1 hB) (Yi hB HB.out.1.size) hok (hpar.old HB.out.1))
 obtain⟨q,hq⟩: ∃q,q=Zbh s:=⟨_,rfl⟩
 have HQ:=ZZ hq;rw[← hq] at HLO;obtain⟨c0,c1,c2,c3,c4,c5,c6,c7,c8,c9⟩:=HB.out.2.2;clear hW h hok hpar hq
 go_enter Tryz.func37,Tryz.ntmps37
 go_upto_region 1 with fail
 rw[HW.out]
 go_wp2_with fail
 go_at_call 43;refine HLO.out.mono ?_;rintro e w1 ⟨g,ba,ga,mp,n,vm,rfl,hlk,o⟩;have O:=ZZ (HB.out.1.trans o);have HLK:=ZZ hlk;clear o hlk c0 c1 c2 c3 c4 c5 c6 c7 c8 c9;by_cases hq0:q=0
 · subst hq0
   have K1:=ZZ (HLK.out rfl);have HY:=ZZ (Zom HQ.out.symm);have HOB:=ZZ (show Calls Tryz.prog 66 #[.pointer (some ⟨g,0,none⟩)] w1 fun e w'=> ∃v',e=.returned v'∧w'.ownsRow w1.heap.size 3 1 v' s.objs.length (i64s s.objs)∧Only nob w1 w' from Zj7 K1.out (Zbf s) HOK.out.few.2.1)
   go_wp2_with fail
   go_at_call 66;refine HOB.out.mono ?_;rintro e w2 ⟨v2,rfl,hO,o⟩;have O2:=ZZ (O.out.trans o);have HS:=ZZ (Sl.of_own hO (by simp[i64s]));clear hO o;go_wp2;go_ret2;exact⟨v2,(by rw[HY.out.1];rfl),(by rw[HY.out.2];exact HS.out),O2.out⟩
 · have HN:=ZZ (Zq7 (s:=s) (by rw[← HQ.out];exact hq0))
   have hbq:(q !=0)=true:=by simpa using hq0
   clear hq0;go_wp2;go_ret2;exact⟨.slice none 0 0,(by rw[HN.out.1];rfl),(by rw[HN.out.2];exact Sl.nil_),O.out⟩
def zof (x:Nat):Int:=hSz (oK x) (oF x) (oR x) (oC x)
theorem Zor {x:Nat} (h:wOk x=true):zof x=1+wF x+wR x:=by
 obtain⟨h1,h2,h3, -,h5, -⟩:=Zud h;unfold zof;rw[h1,h2,h3,h5,ZeP (ZgF h)]
theorem ZtW {x:Nat} (h:wOk x=false):zof x=1:=by
 obtain⟨h1,h2,h3, -,h5, -⟩:=Zu9 h;unfold zof;rw[h1,h2,h3,h5];decide
theorem Zll (x:Nat):1≤zof x∧zof x≤8193:=by
 cases h:wOk x with
 |true=>rw[Zor h];have:=Zdq h;omega
 |false=>rw[ZtW h];omega
structure SameHead (P l:List Nat) (a:Int):Prop where
 e:ohE P 0=ohE l a
 k:ohK P 0=ohK l a
 f:ohF P 0=ohF l a
 r:ohR P 0=ohR l a
 m:ohM P 0=ohM l a
 c:ohC P 0=ohC l a
theorem Zev {P l:List Nat} {a:Int} (he:ohE P 0=ohE l a) (hw:ohE l a=0→wd P 0=wd l a.toNat):SameHead P l a:=by
 by_cases h0:ohE l a=0
 · have h1:ohE P 0=0:=he.trans h0
   have hw':=hw h0;have e0:((0:Int)).toNat=0:=rfl;refine⟨he,?_,?_,?_,?_,?_⟩
   · unfold ohK;rw[if_pos h1,if_pos h0,e0,hw']
   · unfold ohF;rw[if_pos h1,if_pos h0,e0,hw']
   · unfold ohR;rw[if_pos h1,if_pos h0,e0,hw']
   · unfold ohM;rw[if_pos h1,if_pos h0,e0,hw']
   · unfold ohC;rw[if_pos h1,if_pos h0,e0,hw']
 · obtain⟨a1,a2,a3,a4,a5⟩:=Ze0 h0
   obtain⟨b1,b2,b3,b4,b5⟩:=Ze0 (l:=P) (a:=0) (by rw[he];exact h0);exact⟨he,by rw[a1,b1],by rw[a2,b2],by rw[a3,b3],by rw[a4,b4],by rw[a5,b5]⟩
theorem Zdx {l:List Nat} {a:Int} (h: ¬(0≤a∧a<(l.length:Int))):SameHead [] l a:=by
 have h1:ohE l a=2:=Zmk h;have h2:ohE [] 0=2:=Zmk (by simp)
 exact Zev (h2.trans h1.symm) fun h0=>by rw[h1] at h0;cases h0
theorem Zh2 {l:List Nat} {n m:Nat} (hn:n<l.length) (hm1:1≤m) (hml:n+m≤l.length) (hz:(m:Int)=zof (wd l n)∨((m:Int)=(l.length:Int) - n∧(m:Int)<zof (wd l n))):SameHead (part l n m) l n:=by
 have hlen:(part l n m).length=m:=Zay l n m hml
 have hw0:wd (part l n m) 0=wd l n:=by
  have:=ZgX l n m 0 hml hm1
  rw[Nat.add_zero] at this;unfold wd;rw[Yn,this];rfl
 have hi:0≤(n:Int)∧(n:Int)<(l.length:Int):=by omega
 have hj:(0:Int)≤0∧(0:Int)<((part l n m).length:Int):=by rw[hlen];omega
 have e0:((0:Int)).toNat=0:=rfl;have en:((n:Nat):Int).toNat=n:=rfl
 refine Zev ?_ fun _=>by rw[en];exact hw0
 cases hk:wOk (wd l n) with
 |false=>rw[ZnI hi (by rw[en];exact hk),ZnI hj (by rw[e0,hw0];exact hk)]
 |true=>
  have hzy:=Zor hk;by_cases hf:1+wF (wd l n)+wR (wd l n)≤(l.length:Int) - n
  · rw[ZiA ⟨hn,hk,hf⟩]
    have:=ZiA (l:=part l n m) (a:=0) ⟨by rw[hlen];omega,by rw[hw0];exact hk,by rw[hw0,hlen];rcases hz with hz|hz <;> omega⟩
    exact this
  · rw[ZnX hi (by rw[en];exact hk) (by rw[en];exact hf)]
    exact ZnX hj (by rw[e0,hw0];exact hk) (by rw[e0,hw0,hlen];rcases hz with hz|hz <;> omega)
theorem ZoA (v:Value) (l:List Nat) (a:Int) (B:Nat) (w:World) (h:Sl w B 1 v l.length (u64s l)) (hB:B≤w.heap.size) (hl:l.length≤98304) (hw:ZaM l) (hp:Par w):
 Calls Tryz.prog 99 #[v,.int .i64 a] w fun e w'=> ∃v' P,e=.returned v'∧Sl w' B 1 v' P.length (u64s P)∧P.length≤98304∧ZaM P∧SameHead P l a∧Only nob w w':=by
 obtain⟨A,c,rfl,hac,hcm⟩:=h.form;have HS:=ZZ h;have HP:=ZZ hp;by_cases h1:a<0
 · have HH:=ZZ (Zdx (l:=l) (a:=a) (by omega))
   clear h hp hw
   go_enter Tryz.func99,Tryz.ntmps99
   go_wp2;go_ret
   first
   |exact⟨_,[],rfl,Sl.nil_,by simp,(fun _ h=>by cases h),HH.out,Only.refl _ _⟩
   |exact⟨_,rfl,[],Sl.nil_,by simp,(fun _ h=>by cases h),HH.out,Only.refl _ _⟩
 by_cases h2:a<(l.length:Int)
 · obtain⟨n,rfl⟩: ∃n:Nat,a=n:=⟨a.toNat,by omega⟩
   have hn:n<l.length:=by omega
   obtain⟨x,hx⟩: ∃x,l[n]? =some x:=⟨_,Ya hn⟩
   have hwx:wd l n=x:=by unfold wd;rw[Yn,hx];rfl
   obtain⟨b,o,rfl, -,d0⟩:=Zdm h (Below.refl _ _) hx;have hxf:x<full:=hw x (Yo hx);have HD:=ZZ (Zqc hxf w hp);have hzb:=Zll x;have HSZ:=ZZ (show ∀w,Par w→Calls Tryz.prog 135 #[.agg #[.int .i64 (oK x),.int .i64 (oF x),.int .i64 (oR x),.bool (oM x),.int .i64 (oC x)]] w fun e w'=>e=.returned (.int .i64 (zof x))∧Only nob w w' from fun w hp=>Za0 _ _ _ _ _ w hp);have HROW:=ZZ (fun (m:Nat) (h1:1≤m) (h2:n+m≤l.length) (h3:(m:Int)=zof x∨((m:Int)=(l.length:Int) - n∧(m:Int)<zof x))=>Zh2 hn h1 h2 (by rw[hwx];exact h3))
   have hcut: ∀(m:Nat),n+m≤c→ ∀w:World,(Instr.sliceAt 30 (.slice (some ⟨b,o,none⟩) l.length c) (some (.int .i64 ((n:Nat):Int))) (some (.int .i64 ((n:Int)+(m:Int)))) none).run Tryz.prog w=.ok (Zbb (some ⟨b,o,none⟩) n (n+m) c 1) w:=fun m hm w=>by
    obtain⟨i,hi, -,h1, -⟩:=info_parts Zd9
    have:=Zb9 Tryz.underlying30 hi (some ⟨b,o,none⟩) l.length c n (n+m) (by omega) hm w
    rw[h1] at this;exact this
   obtain⟨z,hz⟩: ∃z,z=zof x:=⟨_,rfl⟩
   rw[← hz] at HSZ HROW hzb
   obtain⟨K,hK⟩: ∃k,k=oK x:=⟨_,rfl⟩
   obtain⟨F,hF⟩: ∃k,k=oF x:=⟨_,rfl⟩
   obtain⟨R,hR⟩: ∃k,k=oR x:=⟨_,rfl⟩
   obtain⟨M,hM⟩: ∃k,k=oM x:=⟨_,rfl⟩
   obtain⟨C,hC⟩: ∃k,k=oC x:=⟨_,rfl⟩
   obtain⟨E,hE⟩: ∃k,k=oE x:=⟨_,rfl⟩
   rw[← hK, ← hF, ← hR, ← hM, ← hC] at HD HSZ;rw[← hE] at HD;have HWW:=ZZ hw;have HCUT:=ZZ hcut;clear h hp hx hwx hxf hz hK hF hR hM hC hE hw hcut;unfold maxLen at hcm
   go_enter Tryz.func99,Tryz.ntmps99
   go_wp2_with fail
   go_at_call 134;refine HD.out.mono ?_;rintro e w1 ⟨rfl,o1⟩;obtain⟨W3,hW3,HB3⟩:=ZT w1 K F R M C;have HW3:=ZZ hW3;have O3:=ZZ (o1.trans HB3.out.1);clear hW3 o1 d0
   go_upto_region 4 with fail
   rw[HW3.out];obtain⟨c0,c1,c2,c3,c4⟩:=Zx HB3.out.2
   go_wp2_with fail
   go_at_call 135;refine(HSZ.out _ (HP.out.old O3.out)).mono ?_;rintro e w4 ⟨rfl,o4⟩;have O4:=ZZ (O3.out.trans o4);clear o4 c0 c1 c2 c3 c4;by_cases hm:z≤(l.length:Int) - n
   · obtain⟨zn,rfl⟩: ∃zn:Nat,z=zn:=⟨z.toNat,by omega⟩
     have hmin:min (zn:Int) ((l.length:Int) - n)=zn:=by omega
     have hcut:=HCUT.out zn (by omega);have HH:=ZZ (HROW.out zn (by omega) (by omega) (.inl rfl));go_wp2;go_ret;have h1:=(HS.out.below (O4.out.below hB fun _ h=>h.elim)).cut (l:=n) (k:=n+zn) (by omega) (by omega)
     have h4:((u64s l).drop (n * 1)).take ((n+zn - n) * 1)=u64s (part l n zn):=by
      unfold u64s part;rw[List.map_take,List.map_drop];congr 1 <;> simp
     rw[h4] at h1
     have h5:n+zn - n=(part l n zn).length:=by rw[Zay _ _ _ (by omega)];omega
     rw[h5] at h1;exact⟨_,part l n zn,rfl,h1,by rw[Zay _ _ _ (by omega)];omega,HWW.out.sub _ _,HH.out,O4.out⟩
   · obtain⟨zn,hzn⟩: ∃zn:Nat,(zn:Int)=(l.length:Int) - n:=⟨l.length - n,by omega⟩
     have hmin:min z ((l.length:Int) - n)=(l.length:Int) - n:=by omega
     have hcut:=HCUT.out zn (by omega);rw[hzn] at hcut;have HH:=ZZ (HROW.out zn (by omega) (by omega) (.inr ⟨hzn,by omega⟩));have HZN:=ZZ hzn;clear hzn;go_wp2;go_ret;have hzn:=HZN.out;have h1:=(HS.out.below (O4.out.below hB fun _ h=>h.elim)).cut (l:=n) (k:=n+zn) (by omega) (by omega)
     have h4:((u64s l).drop (n * 1)).take ((n+zn - n) * 1)=u64s (part l n zn):=by
      unfold u64s part;rw[List.map_take,List.map_drop];congr 1 <;> simp
     rw[h4] at h1
     have h5:n+zn - n=(part l n zn).length:=by rw[Zay _ _ _ (by omega)];omega
     rw[h5] at h1;exact⟨_,part l n zn,rfl,h1,by rw[Zay _ _ _ (by omega)];omega,HWW.out.sub _ _,HH.out,O4.out⟩
 · have HH:=ZZ (Zdx (l:=l) (a:=a) (by omega))
   clear h hp hw
   go_enter Tryz.func99,Tryz.ntmps99
   go_wp2;go_ret
   first
   |exact⟨_,[],rfl,Sl.nil_,by simp,(fun _ h=>by cases h),HH.out,Only.refl _ _⟩
   |exact⟨_,rfl,[],Sl.nil_,by simp,(fun _ h=>by cases h),HH.out,Only.refl _ _⟩
theorem Zto:ZuM 68:=by
 intro s a vw vt vf vs B w h hB hok hpar;obtain⟨At,ct,rfl,hat,hct⟩:=h.tab.form;obtain⟨Aw,cw,rfl,haw,hcw⟩:=h.words.form;obtain⟨Al,cl,rfl,hal,hcl⟩:=h.slots.form;obtain⟨Af,cf,rfl,haf,hcf⟩:=h.free.form;obtain⟨W,hW,HB⟩:=ZW w s (.slice Aw s.ws.length cw) (.slice At s.tb.length ct) (.slice Af s.fr.length cf) (.slice Al s.sl.length cl);have HW:=ZZ hW;obtain⟨W2,hW2,HB2⟩:=ZY W;have HW2:=ZZ hW2
 have hsz:W.heap.size=w.heap.size+1:=by rw[← hW];simp
 rw[hsz] at HB2
 obtain⟨k,hkk⟩: ∃k,k=ohK s.ws a:=⟨_,rfl⟩
 obtain⟨f,hf⟩: ∃k,k=ohF s.ws a:=⟨_,rfl⟩
 obtain⟨r,hr⟩: ∃k,k=ohR s.ws a:=⟨_,rfl⟩
 obtain⟨m,hm'⟩: ∃k,k=ohM s.ws a:=⟨_,rfl⟩
 obtain⟨c,hc⟩: ∃k,k=ohC s.ws a:=⟨_,rfl⟩
 obtain⟨E,hE⟩: ∃k,k=ohE s.ws a:=⟨_,rfl⟩
 have HNM:=ZZ (And.intro hkk (And.intro hf (And.intro hr (And.intro hm' (And.intro hc hE)))));rw[← hkk, ← hf, ← hr, ← hm', ← hc, ← hE];have O2:=ZZ (HB.out.1.trans HB2.out.1);have X2:=ZZ (HB.out.2.2.keep HB2.out.1);have HPAR:=ZZ hpar;have HROW:=ZZ (ZoA (.slice Aw s.ws.length cw) s.ws a B W2 (h.words.below (O2.out.below hB fun _ h=>h.elim)) (Yi hB O2.out.size) hok.few.1 hok.ws (hpar.old O2.out));have hwl:w.heap.size≤w.heap.size+1:=Nat.le_succ _
 have hfew:(s.ws.length:Int)≤98304:=by have:=hok.few.1;omega
 have c5:=X2.out.c5;clear hW hW2 h hok hpar hkk hf hr hm' hc hE
 go_enter Tryz.func68,Tryz.ntmps68
 go_upto_region 1 with fail
 rw[HW.out,HW2.out]
 go_wp2_with fail
 go_at_call 99;refine HROW.out.mono ?_;rintro e w3 ⟨v3,P,rfl,hS,hPl,hPw,hPH,o⟩;have O3:=ZZ (O2.out.trans o);have B3:=ZZ (HB2.out.2.keep o id);have HOF:=ZZ (Zrc v3 P w3 (hS.more (Yi hB O3.out.size)) hPl hPw);have HPH:=ZZ hPH;clear o c5 hS hPl hPw hPH
 go_wp2_with fail
 go_at_call 70;refine HOF.out.mono ?_;rintro e w4 ⟨ba,ga,rfl,hba,hga,hAr,o⟩;have O4:=ZZ (O3.out.trans o);have B4:=ZZ (B3.out.keep o id);have HH:=ZZ (Zc4 ba ga P 0 w4 hAr (HPAR.out.old O4.out) (by omega));have hq:=HPH.out;obtain⟨n1,n2,n3,n4,n5,n6⟩:=HNM.out;rw[hq.e,hq.k,hq.f,hq.r,hq.m,hq.c, ← n1, ← n2, ← n3, ← n4, ← n5, ← n6] at HH;clear o hba hga hAr hq n1 n2 n3 n4 n5 n6
 go_wp2_with fail
 go_at_call 100;refine HH.out.mono ?_;rintro e w5 ⟨rfl,o⟩;have O5:=ZZ (O4.out.trans o);have B5:=ZZ (B4.out.keep o id);clear o;obtain⟨s0,s1,s2,s3,s4⟩:=Zx B5.out;obtain⟨r0,r1,r2,r3,r4⟩:=ZcY B5.out;go_wp2;clear s0 s1 s2 s3 s4 r0 r1 r2 r3 r4;obtain⟨W6,hW6,O6,B6⟩:=Zfw O5.out hwl B5.out (.int .i64 k) (.int .i64 f) (.int .i64 r) (.bool m) (.int .i64 c)
 with_reducible rw[hW6]
 obtain⟨h0,h1,h2,h3,h4⟩:=Zx B6;exact bodyPost_ret (v:=.tuple #[.agg #[.int .i64 k,.int .i64 f,.int .i64 r,.bool m,.int .i64 c],.int .i64 E]) (by simp[results,Tryz.results68,go_sem,h0,h1,h2,h3,h4]) rfl ⟨rfl,O6⟩
theorem ZjZ {w W:World} {b:Nat} {t:TypeId} (o:Only nob w W) (hb:w.heap.size≤b) {z0 z1 z2 z3 z4 z5 z6 z7 z8 z9:Value} (B:Blk W b t #[z0,z1,z2,z3,z4,z5,z6,z7,z8,z9]) (x0 x1 x2 x3 x4 x5 x6 x7 x8 x9:Value):
 ∃W4,((((((((((W.setCell ⟨b,0,none⟩ x0).setCell ⟨b,1,none⟩ x1).setCell ⟨b,2,none⟩ x2).setCell ⟨b,3,none⟩ x3).setCell ⟨b,4,none⟩ x4).setCell ⟨b,5,none⟩ x5).setCell ⟨b,6,none⟩ x6).setCell ⟨b,7,none⟩ x7).setCell ⟨b,8,none⟩ x8).setCell ⟨b,9,none⟩ x9)=W4∧Only nob w W4∧Only (isb b) W W4∧Blk W4 b t #[x0,x1,x2,x3,x4,x5,x6,x7,x8,x9]:=by
 refine⟨_,rfl,Zf (Zf (Zf (Zf (Zf (Zf (Zf (Zf (Zf (Zf o hb _) hb _) hb _) hb _) hb _) hb _) hb _) hb _) hb _) hb _,?_,?_⟩
 · exact(((((((((Zc _ b 0 _).trans (Zc _ b 1 _)).trans (Zc _ b 2 _)).trans (Zc _ b 3 _)).trans (Zc _ b 4 _)).trans (Zc _ b 5 _)).trans (Zc _ b 6 _)).trans (Zc _ b 7 _)).trans (Zc _ b 8 _)).trans (Zc _ b 9 _)
 · simpa using(((((((((B.put 0 x0).put 1 x1).put 2 x2).put 3 x3).put 4 x4).put 5 x5).put 6 x6).put 7 x7).put 8 x8).put 9 x9
theorem Z0 {w:World} {b:Nat} {t:TypeId} {x0 x1 x2 x3 x4 x5 x6 x7 x8 x9:Value} (h:Blk w b t #[x0,x1,x2,x3,x4,x5,x6,x7,x8,x9]):
 w.cell? ⟨b,0,none⟩=some x0∧w.cell? ⟨b,1,none⟩=some x1∧w.cell? ⟨b,2,none⟩=some x2∧w.cell? ⟨b,3,none⟩=some x3∧w.cell? ⟨b,4,none⟩=some x4∧w.cell? ⟨b,5,none⟩=some x5∧w.cell? ⟨b,6,none⟩=some x6∧w.cell? ⟨b,7,none⟩=some x7∧w.cell? ⟨b,8,none⟩=some x8∧w.cell? ⟨b,9,none⟩=some x9:=
 ⟨h.cell 0,h.cell 1,h.cell 2,h.cell 3,h.cell 4,h.cell 5,h.cell 6,h.cell 7,h.cell 8,h.cell 9⟩
theorem ZdY {w:World} {b:Nat} {t:TypeId} {cs:Array Value} (h:Blk w b t cs):
 w.frozen? ⟨b,0,none⟩=false∧w.frozen? ⟨b,1,none⟩=false∧w.frozen? ⟨b,2,none⟩=false∧w.frozen? ⟨b,3,none⟩=false∧w.frozen? ⟨b,4,none⟩=false∧w.frozen? ⟨b,5,none⟩=false∧w.frozen? ⟨b,6,none⟩=false∧w.frozen? ⟨b,7,none⟩=false∧w.frozen? ⟨b,8,none⟩=false∧w.frozen? ⟨b,9,none⟩=false:=
 ⟨h.free 0,h.free 1,h.free 2,h.free 3,h.free 4,h.free 5,h.free 6,h.free 7,h.free 8,h.free 9⟩
theorem ZfZ (w:World): ∃W,w.alloc (.cells #[.int .i64 0,.int .i64 0,.int .i64 0,.int .i64 0,.bool false,.slice none 0 0,.int .i64 0,.slice none 0 0,.slice none 0 0,.slice none 0 0] 34)=W∧Hid (Only nob w W∧Blk W w.heap.size 34 #[.int .i64 0,.int .i64 0,.int .i64 0,.int .i64 0,.bool false,.slice none 0 0,.int .i64 0,.slice none 0 0,.slice none 0 0,.slice none 0 0]):=
 ⟨_,rfl,ZZ ⟨(Only.refl nob w).alloc _,Blk.new w _ _⟩⟩
theorem Zi5 (n:Nat) (w:World): ∃W,w.alloc (.cells (u64s (List.replicate n 0)).toArray 57)=W∧Hid (Only nob w W∧Blk W w.heap.size 57 (u64s (List.replicate n 0)).toArray):=
 ⟨_,rfl,ZZ ⟨(Only.refl nob w).alloc _,Blk.new w _ _⟩⟩
theorem ZkB {W W':World} {B b:Nat} {v:Value} {l:List Sp} (hnz: ∀x∈l,x.1≠0) (h:Sl W B 2 v l.length (spc l)) (hb:Blk W b 34 #[.int .i64 0,.int .i64 0,.int .i64 0,.int .i64 0,.bool false,.slice none 0 0,.int .i64 0,.slice none 0 0,.slice none 0 0,.slice none 0 0]) (o:Only (isb b) W W') (hB:B≤W.heap.size):Sl W' W'.heap.size 2 v l.length (spc l):=by
 obtain⟨A,c,rfl,h1,h2,h3,h4⟩:=h;refine⟨A,c,rfl,h1,h2,h3,fun hn=>?_⟩;obtain⟨g,f,rfl,hg,hc⟩:=h4 hn
 have hne:g≠b:=by
  rintro rfl
  obtain⟨x,hx⟩: ∃x,l[0]? =some x:=⟨_,Ya hn⟩
  have h5:(spc l)[0]? =some (.int .i64 x.1):=by
   cases l with
   |nil=>cases hx
   |cons y m=>obtain rfl:y=x:=by simpa using hx
              simp[spc]
  have h6:=hc 0 _ h5;have h7:=hb.cell (f+0);rw[h6] at h7;have h8:=hnz x (Yo hx);rw[Nat.add_zero] at h7
  match f,h7 with
  |0,h7=>simp at h7;exact h8 h7
  |1,h7=>simp at h7;exact h8 h7
  |2,h7=>simp at h7;exact h8 h7
  |3,h7=>simp at h7;exact h8 h7
  |4,h7=>simp at h7
  |5,h7=>simp at h7
  |6,h7=>simp at h7;exact h8 h7
  |7,h7=>simp at h7
  |8,h7=>simp at h7
  |9,h7=>simp at h7
  |n+10,h7=>simp at h7
 exact⟨g,f,rfl,Yw hg (Yi hB o.size),fun k u hu=>(o.cell (p:=⟨g,f+k,none⟩) (Yw hg hB) hne).trans (hc k u hu)⟩
theorem Zs7 {W W':World} {B b m:Nat} {v:Value} {l:List Slt} (hl:l=List.replicate m ((false,0,0):Slt)) (h:Sl W B 3 v l.length (slc l)) (hb:Blk W b 34 #[.int .i64 0,.int .i64 0,.int .i64 0,.int .i64 0,.bool false,.slice none 0 0,.int .i64 0,.slice none 0 0,.slice none 0 0,.slice none 0 0]) (o:Only (isb b) W W') (hB:B≤W.heap.size):Sl W' W'.heap.size 3 v l.length (slc l):=by
 obtain⟨A,c,rfl,h1,h2,h3,h4⟩:=h;refine⟨A,c,rfl,h1,h2,h3,fun hn=>?_⟩;obtain⟨g,f,rfl,hg,hc⟩:=h4 hn
 have hne:g≠b:=by
  rintro rfl
  obtain⟨x,hx⟩: ∃x,l[0]? =some x:=⟨_,Ya hn⟩
  have hx2:x=((false,0,0):Slt):=by
   have:=Yo hx
   rw[hl,List.mem_replicate] at this;exact this.2
  have h5:(slc l)[0]? =some (.bool false)∧(slc l)[1]? =some (.int .i64 0):=by
   cases l with
   |nil=>cases hx
   |cons y q=>
    obtain rfl:y=x:=by simpa using hx
    rw[hx2];simp[slc,slE]
  have h6:=hc 0 _ h5.1;have h6':=hc 1 _ h5.2;have h7:=hb.cell (f+0);have h7':=hb.cell (f+1);rw[h6] at h7;rw[h6'] at h7';rw[Nat.add_zero] at h7
  match f,h7,h7' with
  |0,h7,_=>simp at h7
  |1,h7,_=>simp at h7
  |2,h7,_=>simp at h7
  |3,h7,_=>simp at h7
  |4,_,h7'=>simp at h7'
  |5,h7,_=>simp at h7
  |6,h7,_=>simp at h7
  |7,h7,_=>simp at h7
  |8,h7,_=>simp at h7
  |9,h7,_=>simp at h7
  |n+10,h7,_=>simp at h7
 exact⟨g,f,rfl,Yw hg (Yi hB o.size),fun k u hu=>(o.cell (p:=⟨g,f+k,none⟩) (Yw hg hB) hne).trans (hc k u hu)⟩
def frN (c:Cf):List Sp:=if 0<c.large then[Ze c] else[]
theorem ZqO {c:Cf} (h:c.ok): ∀x∈frN c,x.1≠0:=by
 intro x hx;have h':=h;unfold Cf.ok at h';unfold frN at hx
 split at hx
 · rw[Yt.1 hx]
   unfold Ze;rw[if_pos ⟨h,by omega⟩];simp only;omega
 · cases hx
theorem ZqX {c:Cf} (h:c.ok) {O:List Sp} (hJ:Joined O) (hO: ∀p,cov O p↔((Ze c).has p∧ ¬cov [] p)):O=frN c:=by
 have h':=h;unfold Cf.ok at h';refine ZbI hJ ?_ fun p=>?_
 · unfold frN
   split
   · refine⟨fun y hy=>?_,List.pairwise_singleton _ _⟩
     rw[Yt.1 hy];exact Zij h (by assumption)
   · exact Joined.nil
 · rw[hO p]
   unfold frN
   split
   · constructor
     · exact fun ⟨h1,_⟩=>⟨_,Yt.2 rfl,h1⟩
     · rintro⟨y,hy,hp⟩
       rw[Yt.1 hy] at hp;exact⟨hp,Zb0 p⟩
   · constructor
     · rintro⟨h1,_⟩
       exfalso;unfold Ze at h1;rw[if_neg (by omega)] at h1
       have:=h1.1
       unfold Sp.ok at this;simp only at this;omega
     · rintro⟨y,hy,_⟩
       cases hy
theorem Zup {w:World} {c:Cf} (h:c.ok) {rg n:Nat} {vf vs:Value} (hn:n=(Zo c).toNat) (hb:Blk w rg 57 (u64s (List.replicate n 0)).toArray) (hf:Sl w w.heap.size 2 vf (frN c).length (spc (frN c))) (hs:Sl w w.heap.size 3 vs (List.replicate c.slots.toNat ((false,0,0):Slt)).length (slc (List.replicate c.slots.toNat ((false,0,0):Slt)))):
 Rd w w.heap.size (Ztd c) (.slice (some ⟨rg,0,none⟩) n n) (.slice none 0 0) vf vs:=by
 have hw:=Zet h;rw[ZsK h];subst hn;refine⟨?_,Sl.nil_,hf,hs⟩;have h1:=Sl.of_blk (size:=1) (n:=(Zo c).toNat) (c:=(Zo c).toNat) hb (by simp[u64s]) (Yj _) (by unfold maxLen;omega);simpa using h1
theorem ZnA (n:Int) (w:World):Calls Tryz.prog 53 #[.int .i64 n] w fun e w'=> ∃v',e=.returned (.tuple #[v',.int .i64 (Zuv n)])∧w'.ownsRow w.heap.size 63 3 v' (Zta n).length (slc (Zta n))∧Only nob w w':=by
 have HC:=ZZ (ZeQ n w);by_cases hn:1≤n∧n≤1024
 · rw[Ym hn] at HC
   obtain⟨m,rfl⟩: ∃m:Nat,n=m:=⟨n.toNat,by omega⟩
   have HI:=ZZ (show Zuv m=0 from if_pos hn);have HL:=ZZ (show Zta m=List.replicate m ((false,0,0):Slt) by unfold Zta;rw[if_pos hn,Int.toNat_natCast]);have hb:=hn.2;clear hn
   go_enter Tryz.func53,Tryz.ntmps53
   go_wp2_with fail
   go_at_call 84;refine HC.out.mono ?_;rintro e w1 ⟨rfl,o⟩;have O:=ZZ o;clear o;have hmk:=Zlj m (by omega) w1
   obtain⟨W2,hW2,H2⟩: ∃W2,w1.alloc (.cells (slc (List.replicate m ((false,0,0):Slt))).toArray 63)=W2∧Hid (Only nob w1 W2∧Blk W2 w1.heap.size 63 (slc (List.replicate m ((false,0,0):Slt))).toArray):=⟨_,rfl,ZZ ⟨(Only.refl nob w1).alloc _,Blk.new _ _ _⟩⟩
   rw[hW2] at hmk;clear hW2;go_wp2;go_ret2;refine⟨_,by rw[HI.out];rfl,?_,O.out.trans H2.out.1⟩;rw[HL.out,List.length_replicate];exact⟨by simp[ZeB],.inr ⟨w1.heap.size,m,_,rfl,O.out.size,H2.out.2,Yj _,by unfold maxLen;omega,by simp[ZeB],List.take_of_length_le (by simp[ZeB])⟩⟩
 · rw[Yl hn] at HC
   have HI:=ZZ (show Zuv n=1 from if_neg hn);have HL:=ZZ (show Zta n=[] from if_neg hn);clear hn
   go_enter Tryz.func53,Tryz.ntmps53
   go_wp2_with fail
   go_at_call 84;refine HC.out.mono ?_;rintro e w1 ⟨rfl,o⟩;have O:=ZZ o;clear o;go_wp2;go_ret2;exact⟨_,by rw[HI.out];rfl,by rw[HL.out];exact World.ownsRow_nil _ _ _ _,O.out⟩
end Go.Proofs.YtknoncenblehkaaGreatDoor
