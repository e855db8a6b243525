/- The document's own answer for layer 18: two graphs matched. The laws of chapter 18: walked, over what package canon is a Package canon: Canon, as Breadth and Renumber. Alike, by two A heap as a graph, in plain words: it may be, it has all wor The document's own answer for layer 19: a word's value, in a -/
import Derived.Test.YteieocddfnlmdaaGreatDoorO37
set_option maxRecDepth 100000
set_option maxHeartbeats 32000000
set_option linter.unusedSimpArgs false
set_option linter.unusedVariables false
namespace Go.Proofs.YteieocddfnlmdaaGreatDoor
section
open Go.RowKit Go.Lib
theorem Znp {p tb fb base B:Nat} {a b:Gr} {an ar bn br:Value} {hs js:List (Value×Value)} (hB:B≤base) (ha:ZC a=true) (hb:ZC b=true): ∀n,ZsX p tb fb base B a b an ar bn br hs js n
 |0=>fun W s i k _ _ _ _ _ hc _ _ _=>absurd hc (Nat.not_lt_zero _)
 |n+1=>Zui hB ha hb n (Zry hB ha hb n (Znp hB ha hb n))
theorem Zot (n:Nat) (hn:n≤1000000) (base:Nat) (W:World) (hb:base≤W.heap.size):
 Calls Tryz.prog 87 #[.int .i64 n] W fun e w'=> ∃b,e=.returned (.slice (some ⟨b,0,none⟩) n n)∧(W.heap.size≤b∧b<w'.heap.size)∧w'.ownsRow base 3 1 (.slice (some ⟨b,0,none⟩) n n) n (i64s (List.replicate n (-1)))∧Only nob W w':=
 (ZtN n hn W).mono fun e w' ⟨h1,h2,h3⟩=>⟨_,h1,⟨Yj _,by obtain⟨cs,hb⟩:=Zac h2 (k:=W.heap.size) rfl;exact hb.lt⟩,by
   refine⟨h2.1,?_⟩
   rcases h2.2 with h|⟨g,cap,cur,e,hbg,rest⟩
   · exact .inl h
   · exact .inr ⟨g,cap,cur,e,Yi hb hbg,rest⟩,h3⟩
theorem Zm4 (w:World) (an ar bn br:Value): ∃V,((w.alloc (.cells #[an,ar] 34)).alloc (.cells #[bn,br] 34))=V∧Hid (Only nob w V∧Blk V w.heap.size 34 #[an,ar]∧Blk V (w.heap.size+1) 34 #[bn,br]):=
 ⟨_,rfl,ZZ ⟨((Only.refl nob w).alloc _).alloc _,(Blk.new w _ _).alloc _,Blk.newAt _ _ _ _ (by simp)⟩⟩
def Zvd (f:FuncId):Prop:= ∀(a b:Gr) (an ar bn br:Value) (hs js:List (Value×Value)) (B:Nat) (W:World),RdG W B a an ar hs→RdG W B b bn br js→B≤W.heap.size→GrFit a→GrFit b→a.nd.length≤1000→a.rt.length≤1000→b.nd.length≤1000→b.rt.length≤1000→
 Calls Tryz.prog f #[.agg #[an,ar],.agg #[bn,br]] W fun e w'=> ∃v,e=.returned (.tuple #[v,.bool (Zap a b)])∧OwR w' W.heap.size 3 v (Zey a b).length (i64s (Zey a b))∧Only nob W w'
theorem ZkX {a b:Gr} (h:ZC a=false∨ZC b=false):Zap a b=false∧Zey a b=[]:=by
 have e:Zap a b=false:=by
  unfold Zap
  rcases h with h|h <;> rw[h] <;> simp
 exact⟨e,by unfold Zey;rw[e];rfl⟩
theorem Zqv:Zvd 43:=by
 intro a b an ar bn br hs js B W hra hrb hB hfa hfb hna hta hnb htb;obtain⟨A,ca,rfl,hac,hcm⟩:=hra.nodes.form;obtain⟨A',cb,rfl,hbc,hcm'⟩:=hrb.nodes.form;obtain⟨Ar,cra,rfl,hrac,hrcm⟩:=hra.roots.form;obtain⟨Br,crb,rfl,hrbc,hrcm'⟩:=hrb.roots.form;unfold maxLen at hcm hcm' hrcm hrcm';obtain⟨V,hV,HVB⟩:=Zm4 W (.slice A a.nd.length ca) (.slice Ar a.rt.length cra) (.slice A' b.nd.length cb) (.slice Br b.rt.length crb);have HVE:=ZZ hV;have HGA:=ZZ (fun (W':World) (o:Only nob W W')=>hra.only o hB);have HGB:=ZZ (fun (W':World) (o:Only nob W W')=>hrb.only o hB);have HBW:=ZZ hB;have HRA:=ZZ (Zlj a _ _ hs B V (HGA.out V HVB.out.1) (Yi hB HVB.out.1.size) hfa);have HRB:=ZZ (fun (W':World) (o:Only nob W W')=>Zlj b _ _ js B W' (HGB.out W' o) (Yi hB o.size) hfb);have HNO:=ZZ (And.intro hna hnb);have c0:V.cell? ⟨W.heap.size,0,none⟩=some (.slice A a.nd.length ca):=HVB.out.2.1.cell 0;have c1:V.cell? ⟨W.heap.size,1,none⟩=some (.slice Ar a.rt.length cra):=HVB.out.2.1.cell 1;have e0:V.cell? ⟨W.heap.size+1,0,none⟩=some (.slice A' b.nd.length cb):=HVB.out.2.2.cell 0;have e1:V.cell? ⟨W.heap.size+1,1,none⟩=some (.slice Br b.rt.length crb):=HVB.out.2.2.cell 1;clear hV hra hrb hB hfa hfb hna hta hnb htb
 go_enter Tryz.func43,Tryz.ntmps43
 go_upto_region 1 with fail
 rw[HVE.out]
 go_wp2_with fail
 go_at_call 86;refine HRA.out.mono ?_
 cases hoa:ZC a with
 |false=>
  rintro e w1 ⟨rfl,o1⟩;have O1:=ZZ (HVB.out.1.trans o1);have HE:=ZZ (ZkX (a:=a) (b:=b) (.inl hoa));clear o1 c0 c1 e0 e1 hoa;go_wp2;go_ret2;exact⟨.slice none 0 0,by rw[HE.out.1];rfl,by rw[HE.out.2];exact OwR.nil_,O1.out⟩
 |true=>
  rintro e w1 ⟨rfl,o1⟩;have O1:=ZZ (HVB.out.1.trans o1);have d0:=o1.keeps c0;have d1:=o1.keeps c1;have f0:=o1.keeps e0;have f1:=o1.keeps e1;clear o1 c0 c1 e0 e1
  go_wp2_with fail
  go_at_call 86;refine(HRB.out w1 O1.out).mono ?_
  cases hob:ZC b with
  |false=>
   rintro e w2 ⟨rfl,o2⟩;have O2:=ZZ (O1.out.trans o2);have HE:=ZZ (ZkX (a:=a) (b:=b) (.inr hob));clear o2 d0 d1 f0 f1 hoa hob;go_wp2;go_ret2;exact⟨.slice none 0 0,by rw[HE.out.1];rfl,by rw[HE.out.2];exact OwR.nil_,O2.out⟩
  |true=>
   rintro e w2 ⟨rfl,o2⟩;have O2:=ZZ (O1.out.trans o2);have c0:=o2.keeps d0;have c1:=o2.keeps d1;have e0:=o2.keeps f0;have e1:=o2.keeps f1;clear o2 d0 d1 f0 f1;have HS0:=ZZ (show ∀W':World,Only nob w2 W'→W'.cell? ⟨W.heap.size,0,none⟩=some (.slice A a.nd.length ca)∧W'.cell? ⟨W.heap.size,1,none⟩=some (.slice Ar a.rt.length cra)∧W'.cell? ⟨W.heap.size+1,0,none⟩=some (.slice A' b.nd.length cb)∧W'.cell? ⟨W.heap.size+1,1,none⟩=some (.slice Br b.rt.length crb) from fun W' o=>⟨o.keeps c0,o.keeps c1,o.keeps e0,o.keeps e1⟩)
   obtain⟨base,hbase⟩: ∃base,base=w2.heap.size:=⟨_,rfl⟩
   have HBS:=ZZ hbase;have HNA:=ZZ (fun (W':World) (o:Only nob w2 W')=>Zot a.nd.length (by have:=HNO.out.1;omega) base W' (by rw[HBS.out];exact o.size));have HNB:=ZZ (fun (W':World) (o:Only nob w2 W')=>Zot b.nd.length (by have:=HNO.out.2;omega) base W' (by rw[HBS.out];exact o.size));clear hbase
   go_upto_region 3 with fail
   go_cut [6] (fun s6 wx=> ∃p tb fb:Nat,s6=.pointer (some ⟨p,0,none⟩)∧Hid (MPm wx p tb fb base (.slice A a.nd.length ca) (.slice Ar a.rt.length cra) (.slice A' b.nd.length cb) (.slice Br b.rt.length crb) a.nd.length b.nd.length (.first a b)∧Only nob w2 wx))
   case first=>
    have OC:=ZZ (show Only nob w2 w2.drew from(Only.refl nob w2).drewN 1);have mixed:=ZbV
    go_region_held3 (fun w':World=>w'.cell? ⟨W.heap.size,0,none⟩=some (.slice A a.nd.length ca)∧w'.cell? ⟨W.heap.size,1,none⟩=some (.slice Ar a.rt.length cra)∧w'.cell? ⟨W.heap.size+1,0,none⟩=some (.slice A' b.nd.length cb)∧w'.cell? ⟨W.heap.size+1,1,none⟩=some (.slice Br b.rt.length crb)) (first|(with_reducible exact HS0.out _ OC.out)|(with_reducible exact HS0.out _ (OC.out.alloc _))|go_keep)
     (first
       |(go_at_call 87
         with_reducible refine(HNA.out _ OC.out).mono ?_
         rintro e wt ⟨tb,rfl,htb,hrow,o⟩
         (try have NE:=ZZ (show tb≠fb by have:=ZB.out.2;omega))
         (try have RB:=ZZ (Zb RB.out o fun _ _ h=>h))
         have RT:=ZZ hrow;have ZT:=ZZ htb;have OC:=ZZ (OC.out.trans o)
         clear o hrow htb)
       |(go_at_call 87
         with_reducible refine(HNB.out _ OC.out).mono ?_
         rintro e wt ⟨fb,rfl,htb,hrow,o⟩
         (try have NE:=ZZ (show tb≠fb by have:=ZT.out.2;omega))
         (try have RT:=ZZ (Zb RT.out o fun _ _ h=>h))
         have RB:=ZZ hrow;have ZB:=ZZ htb;have OC:=ZZ (OC.out.trans o)
         clear o hrow htb))
    all_goals (go_wp2;go_meet)
    all_goals
     have hbt:base≤tb:=by first|(rw[HBS.out];exact ZT.out.1)|(have a1:=ZT.out;have a2:=ZB.out;rw[HBS.out];exact Yi (show w2.heap.size≤fb from ZB.out.1) (by omega))
     have hbf:base≤fb:=by first|(have a1:=ZT.out;have a2:=ZB.out;omega)|(rw[HBS.out];exact ZB.out.1)
     refine⟨_,tb,fb,rfl,ZZ ⟨⟨Blk.new _ _ _,Zb RT.out ((Only.refl nob _).alloc _) (fun _ _ h=>h),Zb RB.out ((Only.refl nob _).alloc _) (fun _ _ h=>h),NE.out,by rw[HBS.out];exact OC.out.size,hbt,hbf⟩,OC.out.alloc _⟩⟩
   case rest=>
   obtain⟨p,tb,fb,rfl,HC⟩:=hcut;clear c0 c1 e0 e1;obtain⟨-,c1, -,e1⟩:=HS0.out wc HC.out.2
   have hBb:B≤base:=by rw[HBS.out];exact Yi HBW.out O2.out.size
   have OW:=ZZ (O2.out.trans HC.out.2)
   have hcnt:(MSt.first a b).pa.count (-1)<a.nd.length+1:=by
    have:=List.count_le_length (a:=(-1:Int)) (l:=(MSt.first a b).pa)
    rw[(Zdy a b).1.tl] at this;omega
   have HV:=ZZ (show Calls Tryz.prog 88 #[.pointer (some ⟨p,0,none⟩),.slice Ar a.rt.length cra,.slice Br b.rt.length crb] wc fun e w'=>e=.returned (.tuple #[])∧MPm w' p tb fb base (.slice A a.nd.length ca) (.slice Ar a.rt.length cra) (.slice A' b.nd.length cb) (.slice Br b.rt.length crb) a.nd.length b.nd.length (Zce a b)∧Only (ZfF base) wc w' from
    Zry hBb hoa hob (a.nd.length+1) (Znp hBb hoa hob (a.nd.length+1)) wc (MSt.first a b) a.rt b.rt _ _ HC.out.1 (HGA.out wc OW.out) (HGB.out wc OW.out) (HGA.out wc OW.out).roots (HGB.out wc OW.out).roots (by rw[HBS.out];exact HC.out.2.size) (Zdy a b).1 hcnt (ZeQ hoa) (ZeQ hob) rfl)
   have HBD:=ZZ (Znx hoa hob);clear hcnt hoa hob
   go_wp2_with fail
   go_at_call 88;refine HV.out.mono ?_;rintro e w5 ⟨rfl,hmp,o5⟩;have HMP:=ZZ hmp;have O5:=ZZ (O2.out.trans (HC.out.2.andThen o5 fun i hi e=>absurd (show base≤i from e) (by rw[HBS.out];omega)));have c6:w5.cell? ⟨p,6,none⟩=some (.bool (Zce a b).bad):=hmp.box.cell 6;have c4:w5.cell? ⟨p,4,none⟩=some (.slice (some ⟨tb,0,none⟩) a.nd.length a.nd.length):=hmp.box.cell 4;clear hmp o5 c1 e1
   cases hal:Zap a b with
   |true=>
    have HAL:=ZZ hal;have hbd:=HBD.out;rw[hal] at hbd;rw[hbd] at c6;have HT:=ZZ (ZpL hal);have HML:=ZZ (show Zey a b=toL a b by unfold Zey;rw[hal];rfl);have HLN:=ZZ (show(toL a b).length=a.nd.length by simp[toL]);clear hal hbd;go_wp2;go_ret2;refine⟨.slice (some ⟨tb,0,none⟩) a.nd.length a.nd.length,by rw[HAL.out];rfl,?_,O5.out⟩;rw[HML.out,HLN.out, ← HT.out];exact(OwR.of_own HMP.out.pa).more (by rw[HBS.out];exact O2.out.size)
   |false=>
    have HAL:=ZZ hal;have hbd:=HBD.out;rw[hal] at hbd;rw[hbd] at c6;have HML:=ZZ (show Zey a b=[] by unfold Zey;rw[hal];rfl);clear hal hbd;go_wp2;go_ret2;exact⟨.slice none 0 0,by rw[HAL.out];rfl,by rw[HML.out];exact OwR.nil_,O5.out⟩
def ZuZ (f:FuncId):Prop:= ∀(a b:Gr) (an ar bn br:Value) (hs js:List (Value×Value)) (B:Nat) (W:World),RdG W B a an ar hs→RdG W B b bn br js→B≤W.heap.size→GrFit a→GrFit b→a.nd.length≤1000→a.rt.length≤1000→b.nd.length≤1000→b.rt.length≤1000→
 Calls Tryz.prog f #[.agg #[an,ar],.agg #[bn,br]] W fun e w'=>e=.returned (.bool (Zap a b))∧Only nob W w'
theorem canG_fit {g:Gr} (h:GrFit g) (hn:g.nd.length≤1000):GrFit (ZhF g):=Zt1 h (by have:=ZkG g;omega)
theorem ZfH:Zvi 84:=by
 intro g vn vr hs B W hr hB hfit hn hrt;obtain⟨A,c,rfl,hac,hcm⟩:=hr.nodes.form;obtain⟨Ar,cr,rfl,hacr,hcmr⟩:=hr.roots.form;obtain⟨V,hV,HVB⟩:=ZjA W (.slice A g.nd.length c) (.slice Ar g.rt.length cr);have HVE:=ZZ hV;have HG:=ZZ (fun (W':World) (o:Only nob W W')=>hr.only o hB);have HBW:=ZZ hB;have HC:=ZZ (Zif g _ _ hs B V (HG.out V HVB.out.1) (Yi hB HVB.out.1.size) hfit ⟨by omega,by omega⟩);have HP:=ZZ (fun (v:Value) (W':World) (o:Only nob W W') (h:Sl W' W'.heap.size 1 v (flatL g 0).length (i64s (flatL g 0)))=>Zf8 g (flatL g 0) _ _ v hs W'.heap.size W' ((HG.out W' o).more (Yi hB o.size)) h (Yj _) hfit hn hrt (by have:=ZkG g;omega) (ZqW g hn))
 obtain⟨E,hE⟩: ∃E,E=ZbN g:=⟨_,rfl⟩
 obtain⟨L,hL⟩: ∃L,L=flatL g 0:=⟨_,rfl⟩
 obtain⟨K,hK⟩: ∃K,K=ZhF g:=⟨_,rfl⟩
 have HN:=ZZ (show E≠0→K=⟨[],[]⟩ from fun h=>by rw[hK];exact Zqe (by rw[← hE];exact h));rw[Zul,show rnG g (flatL g 0)=ZhF g from rfl, ← hE, ← hL, ← hK] at HP;rw[← hE, ← hL] at HC;rw[← hE, ← hK];have c0:V.cell? ⟨W.heap.size,0,none⟩=some (.slice A g.nd.length c):=HVB.out.2.1.cell 0;have c1:V.cell? ⟨W.heap.size,1,none⟩=some (.slice Ar g.rt.length cr):=HVB.out.2.1.cell 1;clear hV hr hB hfit hn hrt hE hL hK
 go_enter Tryz.func84,Tryz.ntmps84
 go_upto_region 1 with fail
 rw[HVE.out]
 go_wp2_with fail
 go_at_call 76;refine HC.out.mono ?_;rintro e w2 ⟨v1,rfl,h1,o2⟩;have H1:=ZZ h1.sl;have O2:=ZZ (HVB.out.1.trans o2);have B2:=ZZ (HVB.out.2.2.keep o2 id);obtain⟨A2,k2,rfl, -, -⟩:=h1.form;have d0:=o2.keeps c0;have d1:=o2.keeps c1;clear h1 o2 c0 c1;by_cases h0:E=0
 · subst h0
   go_wp2_with fail
   go_at_call 125;refine(HP.out _ w2 O2.out H1.out).mono ?_;rintro e w3 ⟨un,ur,js,rfl,rd,o3⟩;have RD:=ZZ rd;obtain⟨An,cn,rfl, -⟩:=rd.nodes.form;obtain⟨Br,dr,rfl, -⟩:=rd.roots.form;have O3:=ZZ (O2.out.trans o3);have B3:=B2.out.keep o3 id;have b0:w3.cell? ⟨W.heap.size+1,0,none⟩=some (.slice none 0 0):=B3.cell 0;have b1:w3.cell? ⟨W.heap.size+1,1,none⟩=some (.slice none 0 0):=B3.cell 1;have fb0:=B3.free 0;have fb1:=B3.free 1;obtain⟨U,hU,oU,U1⟩:=ZaS B3 (.slice An K.nd.length cn) (.slice Br K.rt.length dr);have HU:=ZZ hU;have OU:=ZZ (O3.out.andThen oU fun i hi e=>by unfold isb at e;omega);have HRD:=ZZ (show RdG U U.heap.size K (.slice An K.nd.length cn) (.slice Br K.rt.length dr) js from rd.off18 B3 oU);clear rd o3 B3 hU oU d0 d1;go_wp2;rw[HU.out];have r0:U.cell? ⟨W.heap.size+1,0,none⟩=some (.slice An K.nd.length cn):=U1.cell 0;have r1:U.cell? ⟨W.heap.size+1,1,none⟩=some (.slice Br K.rt.length dr):=U1.cell 1;refine bodyPost_ret (v:=.tuple #[.agg #[.slice An K.nd.length cn,.slice Br K.rt.length dr],.int .i64 0]) (by simp[results,Tryz.results84,go_sem,r0,r1]) rfl ?_;exact⟨_,_,js,rfl,HRD.out,OU.out⟩
 · have hnb:(E !=0)=true:=by simpa using h0
   have HK:=ZZ (HN.out h0);have b0:w2.cell? ⟨W.heap.size+1,0,none⟩=some (.slice none 0 0):=B2.out.cell 0;have b1:w2.cell? ⟨W.heap.size+1,1,none⟩=some (.slice none 0 0):=B2.out.cell 1;have fb0:=B2.out.free 0;have fb1:=B2.out.free 1;obtain⟨U,hU,oU,U1⟩:=ZaS B2.out (.slice none 0 0) (.slice none 0 0);have HU:=ZZ hU;have OU:=ZZ (O2.out.andThen oU fun i hi e=>by unfold isb at e;omega);clear hU oU d0 d1;go_wp2;rw[HU.out];have r0:U.cell? ⟨W.heap.size+1,0,none⟩=some (.slice none 0 0):=U1.cell 0;have r1:U.cell? ⟨W.heap.size+1,1,none⟩=some (.slice none 0 0):=U1.cell 1;refine bodyPost_ret (v:=.tuple #[.agg #[.slice none 0 0,.slice none 0 0],.int .i64 E]) (by simp[results,Tryz.results84,go_sem,r0,r1]) rfl ?_;exact⟨_,_,[],rfl,by rw[HK.out];exact Zd5 _,OU.out⟩
theorem Ze2 {g:Gr}:ZbN g=0↔ZC g=true:=by
 unfold ZbN
 cases ZC g <;> simp
theorem alike_e {a b:Gr} (ha:ZbN a=0) (hb:ZbN b=0):Zap a b=ZeJ (ZhF a) (ZhF b):=by
 unfold Zap;rw[Ze2.1 ha,Ze2.1 hb];simp
theorem Zqp {a b:Gr} (h:ZbN a≠0∨ZbN b≠0):Zap a b=false:=by
 apply Bool.eq_false_iff.2;intro e;obtain⟨h1,h2, -⟩:=ZdL.1 e;rcases h with h|h
 · exact h (Ze2.2 h1)
 · exact h (Ze2.2 h2)
theorem Zjm:ZuZ 42:=by
 intro a b an ar bn br hs js B W hra hrb hB hfa hfb hna hta hnb htb;obtain⟨A,ca,rfl,hac,hcm⟩:=hra.nodes.form;obtain⟨A',cb,rfl,hbc,hcm'⟩:=hrb.nodes.form;obtain⟨Ar,cra,rfl,hrac,hrcm⟩:=hra.roots.form;obtain⟨Br,crb,rfl,hrbc,hrcm'⟩:=hrb.roots.form;obtain⟨V,hV,HVB⟩:=Zm4 W (.slice A a.nd.length ca) (.slice Ar a.rt.length cra) (.slice A' b.nd.length cb) (.slice Br b.rt.length crb);have HVE:=ZZ hV;have HC1:=ZZ (ZfH a _ _ hs B V (hra.only HVB.out.1 hB) (Yi hB HVB.out.1.size) hfa hna hta);have HC2:=ZZ (fun (W':World) (o:Only nob W W')=>ZfH b _ _ js B W' (hrb.only o hB) (Yi hB o.size) hfb hnb htb);have HK:=ZZ (And.intro (canG_fit hfa hna) (canG_fit hfb hnb));have HE:=ZZ (And.intro (alike_e (a:=a) (b:=b)) (Zqp (a:=a) (b:=b)))
 obtain⟨q,hq⟩: ∃q,q=Zap a b:=⟨_,rfl⟩
 obtain⟨E,hE⟩: ∃z,z=ZbN a:=⟨_,rfl⟩
 obtain⟨F,hF⟩: ∃z,z=ZbN b:=⟨_,rfl⟩
 obtain⟨K,hK⟩: ∃z,z=ZhF a:=⟨_,rfl⟩
 obtain⟨L,hL⟩: ∃z,z=ZhF b:=⟨_,rfl⟩
 rw[← hq, ← hE, ← hF, ← hK, ← hL] at HE;rw[← hE, ← hK] at HC1;rw[← hF, ← hL] at HC2;rw[← hK, ← hL] at HK;rw[← hq];have c0:V.cell? ⟨W.heap.size,0,none⟩=some (.slice A a.nd.length ca):=HVB.out.2.1.cell 0;have c1:V.cell? ⟨W.heap.size,1,none⟩=some (.slice Ar a.rt.length cra):=HVB.out.2.1.cell 1;clear hV hra hrb hB hfa hfb hna hta hnb htb hq hE hF hK hL
 go_enter Tryz.func42,Tryz.ntmps42
 go_upto_region 1 with fail
 rw[HVE.out]
 go_wp2_with fail
 go_at_call 84;refine HC1.out.mono ?_;rintro e w2 ⟨un,ur,ks,rfl,rd,o2⟩;have RD1:=ZZ rd;obtain⟨An,cn,rfl, -⟩:=rd.nodes.form;obtain⟨Ar2,cr2,rfl, -⟩:=rd.roots.form;obtain⟨X,hX,HBX⟩:=ZG w2 (.slice An K.nd.length cn) (.slice Ar2 K.rt.length cr2);have HX:=ZZ hX;have O2:=ZZ (HVB.out.1.trans (o2.trans HBX.out.1));have e0:X.cell? ⟨W.heap.size+1,0,none⟩=some (.slice A' b.nd.length cb):=(HVB.out.2.2.keep (o2.trans HBX.out.1) id).cell 0;have e1:X.cell? ⟨W.heap.size+1,1,none⟩=some (.slice Br b.rt.length crb):=(HVB.out.2.2.keep (o2.trans HBX.out.1) id).cell 1;clear rd o2 hX c0 c1
 go_upto_region 2 with fail
 rw[HX.out]
 go_wp2_with fail
 go_at_call 84;refine(HC2.out X O2.out).mono ?_;rintro e w3 ⟨vn,vr,ls,rfl,rd,o3⟩;have RD2:=ZZ rd;obtain⟨Bn,dn,rfl, -⟩:=rd.nodes.form;obtain⟨Br2,dr2,rfl, -⟩:=rd.roots.form;obtain⟨Y,hY,HBY⟩:=ZG w3 (.slice Bn L.nd.length dn) (.slice Br2 L.rt.length dr2);have HY:=ZZ hY;have O3:=ZZ (O2.out.trans (o3.trans HBY.out.1));have R1:=ZZ (RD1.out.only (HBX.out.1.trans (o3.trans HBY.out.1)) (Yj _));have R2:=ZZ (RD2.out.only HBY.out.1 (Yj _));have S1:=ZZ (HBX.out.1.trans (o3.trans HBY.out.1)).size;have S2:=ZZ HBY.out.1.size;have c0:Y.cell? ⟨w2.heap.size,0,none⟩=some (.slice An K.nd.length cn):=(HBX.out.2.keep (o3.trans HBY.out.1) id).cell 0;have c1:Y.cell? ⟨w2.heap.size,1,none⟩=some (.slice Ar2 K.rt.length cr2):=(HBX.out.2.keep (o3.trans HBY.out.1) id).cell 1;have d0:Y.cell? ⟨w3.heap.size,0,none⟩=some (.slice Bn L.nd.length dn):=HBY.out.2.cell 0;have d1:Y.cell? ⟨w3.heap.size,1,none⟩=some (.slice Br2 L.rt.length dr2):=HBY.out.2.cell 1;clear rd o3 hY e0 e1
 go_upto_region 3 with fail
 rw[HY.out];by_cases hE:E=0
 · subst hE
   by_cases hF:F=0
   · subst hF
     have HQ:=ZZ (HE.out.1 rfl rfl)
     go_wp2_with fail
     go_at_call 85;refine(ZmF K L _ _ _ _ _ _ _ _ Y R1.out R2.out S1.out S2.out HK.out.1 HK.out.2).mono ?_;rintro e w9 ⟨rfl,o9⟩;have O9:=ZZ (O3.out.trans o9);clear o9 c0 c1 d0 d1;rw[← HQ.out];go_wp2;go_ret;exact⟨rfl,O9.out⟩
   · have hb:(F==0)=false:=by simpa using hF
     have HQ:=ZZ (HE.out.2 (.inr hF));clear c0 c1 d0 d1 hF;go_wp2;go_ret;exact⟨Za (by rw[HQ.out]),O3.out⟩
 · have hb:(E==0)=false:=by simpa using hE
   have HQ:=ZZ (HE.out.2 (.inl hE));clear c0 c1 d0 d1 hE;go_wp2;go_ret;exact⟨Za (by rw[HQ.out]),O3.out⟩
end
section
open Go.RowKit
def ZcH (all:List Int) (x:Nat):Sp:=if dK x=2∧dX x∈all then(2,plc all (dX x)) else(dK x,dX x)
def Zlz (all:List Int) (l:List Nat) (p:Int):List Sp:=(List.range (ohF l p).toNat).map fun k:Nat=>ZcH all (wd l (p+1+(k:Nat)).toNat)
def Zm2 (l:List Nat) (p:Int):List Nat:=(List.range (ohR l p).toNat).map fun k:Nat=>wd l (p+1+ohF l p+(k:Nat)).toNat
def liN (all:List Int) (l:List Nat) (p:Int):Nd:=⟨ohK l p,Zlz all l p,Zm2 l p⟩
def ZhR (sl:List Slt):List Slt:=sl.filter (·.1)
def Zen (all:List Int) (sl:List Slt):List Sp:=(ZhR sl).map fun t=>ZcH all t.2.2
def Zrn (x:Nat):Sp:=(dK x,dX x)
noncomputable def liG (s:St):Gr:=if Zal s=0 then⟨s.objs.map (liN s.objs s.ws),Zen s.objs s.sl⟩ else⟨[],[]⟩
noncomputable def liV (s:St):List Sp:=if Zal s=0 then(ZhR s.sl).map fun t=>Zrn t.2.2 else[]
theorem Zdi {s:St} (h:Zal s=0):liG s=⟨s.objs.map (liN s.objs s.ws),Zen s.objs s.sl⟩:=if_pos h
theorem Zll {s:St} (h:Zal s≠0):liG s=⟨[],[]⟩:=if_neg h
theorem Zsk {x:Int} (hx:0≤x∧x<18446744073709551616) (h:dE x=0):ZbC (dK x) (dX x)=true:=by
 by_cases h1:x % 4=1
 · by_cases h2:x / 4<2305843009213693952
   · rw[(Zut h1 h2).1,(Zut h1 h2).2.1,Zmi,ZY];omega
   · rw[(Zix h1 h2).1,(Zix h1 h2).2.1,Zmi,ZY];omega
 · by_cases h2:x % 4=2∧x / 4≤1099511627776
   · rw[(ZiV h2.1 h2.2).1,(ZiV h2.1 h2.2).2.1,ZlY,ZY];omega
   · by_cases h0:x=0
     · rw[h0,Zex.1,Zex.2.1];rfl
     · rw[(Zio h0 h1 h2).2.2] at h;cases h
theorem Zoq {l:List Int} {z:Int}:Zan l z=true↔z∈l:=by
 unfold Zan;simp
theorem ZlB {all:List Int} {x:Nat} (hx:x<18446744073709551616) (h:leads all x=true) (hn:all.length≤1000000):vOk all.length (ZcH all x)=true:=by
 unfold leads at h;rw[Bool.and_eq_true,decide_eq_true_iff,Bool.or_eq_true] at h;obtain⟨h0,h1⟩:=h;have hm:=Zsk (x:=x) (by omega) h0;unfold ZcH
 split
 · rename_i h2
   obtain⟨k,e,hk⟩:=ZeC h2.2
   have:=(Yk.1 hk).1
   rw[e];unfold vOk;rw[ZlY];simp[vin];omega
 · rename_i h2
   have h3:dK x≠2:=by
    intro e;rcases h1 with h1|h1
    · rw[Ym e] at h1;cases h1
    · exact h2 ⟨e,Zoq.1 h1⟩
   unfold vOk;simp only;rw[hm,Yl h3];rfl
theorem Zmw {l:List Nat} (h:Za1 l) (p:Nat):wd l p<18446744073709551616:=by
 unfold wd;rw[Yn]
 cases e:l[p]? with
 |none=>decide
 |some x=>exact h x (Yo e)
section
variable {s:St}
theorem Zem (h:May15 s) {p:Int} (hp:p∈s.objs) {k:Nat} (hk:k<(ohF s.ws p).toNat):leads s.objs (wd s.ws (p+1+(k:Nat)).toNat)=true:=by
 have h8:=h.fields;unfold r8 at h8
 have:=List.all_eq_true.1 h8 p hp
 unfold Zck at this;exact List.all_eq_true.1 this k (List.mem_range.2 hk)
theorem ZfT (h:May15 s) {t:Slt} (ht:t∈ZhR s.sl):leads s.objs t.2.2=true:=by
 obtain⟨h1,h2⟩:=List.mem_filter.1 ht;have h9:=h.leads;unfold r9 at h9
 have:=List.all_eq_true.1 h9 t h1
 rw[h2] at this;simpa using this
theorem Zhl {l:List Slt} (h:Zom l) {t:Slt} (ht:t∈ZhR l):t.2.2<18446744073709551616:=by
 have:=(h t (List.mem_filter.1 ht).1).2.2
 exact this
theorem Zr2 (h:May15 s) (hw:Za1 s.ws) (hn:s.objs.length≤1000000) {p:Int} (hp:p∈s.objs):Zja s.objs.length (liN s.objs s.ws p)=true:=by
 obtain⟨b1,b2,b3,b4,b5,b6,b7⟩:=Zaq (h.head hp).1;have hb:=Zav.1 b7;refine Zb9.2 ⟨hb.1,?_,?_,fun v hv=>?_⟩
 · show(Zlz _ _ _).length≤4096
   unfold Zlz;rw[List.length_map,List.length_range];omega
 · show(Zm2 _ _).length≤4096
   unfold Zm2;rw[List.length_map,List.length_range];omega
 · have hv':v∈Zlz s.objs s.ws p:=hv
   unfold Zlz at hv';obtain⟨k,hk,rfl⟩:=List.mem_map.1 hv';exact ZlB (Zmw hw _) (Zem h hp (List.mem_range.1 hk)) hn
theorem Zub (h:Zal s=0) (hok:StOk s) (hn:s.objs.length≤1000000):ZC (liG s)=true:=by
 have hm:=ZaF.1 h;rw[Zdi h];refine ZbD.2 ⟨fun d hd=>?_,fun v hv=>?_⟩
 · simp only at hd ⊢
   rw[List.length_map];obtain⟨p,hp,rfl⟩:=List.mem_map.1 hd;exact Zr2 hm hok.ws hn hp
 · simp only at hv ⊢
   rw[List.length_map];unfold Zen at hv;obtain⟨t,ht,rfl⟩:=List.mem_map.1 hv;exact ZlB (Zhl hok.sl ht) (ZfT hm ht) hn
theorem ZmM (h:May15 s):(s.smalls.length:Int)≤s.ws.length:=by
 rw[h.smalls_ats,Zg8,h.steps_tr];have h1:=Zpb (ZbB s.ws) (top:=s.top) s.frm.1;have h2:=Za2 h.ok s.sec;have h3:=of_decide_eq_true h.top;have h4:=h.many;have h5:=Zcq h.ok;unfold St.frm at h1 h3 ⊢;have h6:=h.ok;unfold Cf.ok at h6
 split at h1 <;> omega
theorem ZdM (h:May15 s) (hL:ZV s=false):s.objs.length≤460:=by
 have h1:=ZmM h;have h2:=ZeS hL;unfold St.objs;rw[Ys,List.length_map];omega
theorem Zup (h:Zal s=0):(liG s).nd.length=s.objs.length:=by rw[Zdi h];simp
theorem ZhC (l:List Slt):(ZhR l).length≤l.length:=List.length_filter_le _ _
theorem liG_bd (hL:ZV s=false):(liG s).nd.length≤460∧(liG s).rt.length≤100:=by
 by_cases h:Zal s=0
 · refine⟨by rw[Zup h];exact ZdM (ZaF.1 h) hL,?_⟩
   rw[Zdi h];unfold Zen;have h1:=ZhC s.sl;have h2:=ZeS hL;simp only[List.length_map];omega
 · rw[Zll h];simp
theorem ZkE {all:List Int} {x:Nat} (hx:x<18446744073709551616) (hn:all.length≤1000000):(-9223372036854775808≤(ZcH all x).1∧(ZcH all x).1≤9223372036854775807)∧ -9223372036854775808≤(ZcH all x).2∧(ZcH all x).2≤9223372036854775807:=by
 unfold ZcH
 split
 · rename_i h2
   obtain⟨k,e,hk⟩:=ZeC h2.2
   have:=(Yk.1 hk).1
   rw[e];simp only;omega
 · simp only
   unfold dK dX
   refine⟨?_,?_⟩ <;> (repeat' split) <;> omega
theorem liG_fit (hok:StOk s) (hL:ZV s=false):GrFit (liG s):=by
 by_cases h:Zal s=0
 · have hm:=ZaF.1 h
   have hn:s.objs.length≤1000000:=by have:=ZdM hm hL;omega
   rw[Zdi h];refine⟨fun d hd=>?_,fun d hd v hv=>?_,fun d hd x hx=>?_,fun v hv=>?_⟩
   · obtain⟨p,hp,rfl⟩:=List.mem_map.1 hd
     have:=(Zb9.1 (Zr2 hm hok.ws hn hp)).1
     omega
   · obtain⟨p,hp,rfl⟩:=List.mem_map.1 hd
     have hv':v∈Zlz s.objs s.ws p:=hv;unfold Zlz at hv';obtain⟨k,hk,rfl⟩:=List.mem_map.1 hv';exact ZkE (Zmw hok.ws _) hn
   · obtain⟨p,hp,rfl⟩:=List.mem_map.1 hd
     have hx':x∈Zm2 s.ws p:=hx;unfold Zm2 at hx';obtain⟨k,hk,rfl⟩:=List.mem_map.1 hx';exact Zmw hok.ws _
   · unfold Zen at hv
     obtain⟨t,ht,rfl⟩:=List.mem_map.1 hv;exact ZkE (Zhl hok.sl ht) hn
 · rw[Zll h]
   exact⟨(fun _ h=>by cases h),(fun _ h=>by cases h),(fun _ h=>by cases h),fun _ h=>by cases h⟩
end
end
section
open Go.RowKit Go.Lib
theorem ZkS {all:List Int} {K X:Int} {k:Nat} {y:Int} (h:K=2→ ∀(j:Nat) z,j<k→all[j]? =some z→z≠X) (hy:all[k]? =some y) (hn:K=2→y≠X):K=2→ ∀(j:Nat) z,j<k+1→all[j]? =some z→z≠X:=fun e j z hj hz=>by
 rcases Yq j k with h'|h'
 · exact h e j z h' hz
 · obtain rfl:j=k:=by omega
   rw[hy] at hz;rw[← Yp hz];exact hn e
theorem Zto (v:Value) (all:List Int) (x:Nat) (B:Nat) (w:World) (h:Sl w B 1 v all.length (i64s all)) (hB:B≤w.heap.size) (hx:x<18446744073709551616):
 Calls Tryz.prog 34 #[v,.int .u64 (x:Nat)] w fun e w'=>e=.returned (.agg #[.int .i64 (ZcH all x).1,.int .i64 (ZcH all x).2])∧Only nob w w':=by
 have HA:=ZZ h;have HBB:=ZZ hB;obtain⟨A,ca,rfl,hac,ham, -⟩:=h;unfold maxLen at ham;obtain⟨W,hW,HBW⟩:=Zef w;have HWE:=ZZ hW;have HD:=ZZ (Zd2 (n:=(x:Int)) ⟨by omega,by omega⟩ W);have HQ:=ZZ (show ZcH all x=if dK x=2∧dX x∈all then(2,plc all (dX x)) else(dK x,dX x) from rfl)
 obtain⟨K,hK⟩: ∃K:Int,K=dK x:=⟨_,rfl⟩
 obtain⟨X,hX⟩: ∃X:Int,X=dX x:=⟨_,rfl⟩
 obtain⟨E,hE⟩: ∃E:Int,E=dE x:=⟨_,rfl⟩
 rw[← hK, ← hX] at HQ;rw[← hK, ← hX, ← hE] at HD
 obtain⟨q,hq⟩: ∃q,q=ZcH all x:=⟨_,rfl⟩
 rw[← hq] at HQ ⊢;clear hW hK hX hE hq hB
 go_enter Tryz.func34,Tryz.ntmps34
 go_upto_region 1 with fail
 rw[HWE.out]
 go_wp2_with fail
 go_at_call 36;refine HD.out.mono ?_;rintro e w2 ⟨rfl,o2⟩;obtain⟨U,hU,HBU⟩:=ZbK w2 K X;have HUE:=ZZ hU;have OU:=ZZ (HBW.out.1.trans (o2.trans HBU.out.1));have BR:=ZZ (HBW.out.2.keep (o2.trans HBU.out.1) id);have hne:w.heap.size<w2.heap.size:=Yw HBW.out.2.lt o2.size;clear hU o2
 go_upto_region 2 with fail
 rw[HUE.out]
 obtain⟨p,hp⟩: ∃p,p=w2.heap.size:=⟨_,rfl⟩
 have BV:=ZZ HBU.out.2;rw[← hp] at BV hne;rw[← hp];clear hp
 go_wp2_with fail
 go_loopw [7] (fun i wr=> ∃k m:Nat,k≤all.length∧i=.int .i64 k∧Hid (K=2→ ∀(j:Nat) y,j<k→all[j]? =some y→y≠X)∧wr=U.drewN m) (fun i _=>all.length - (intOf i).toNat)
 case atStart=>exact⟨0,0,Yu _,rfl,fun _ j _ hj _=>absurd hj (Nat.not_lt_zero j),rfl⟩
 case round=>
  obtain⟨k,m,hk,rfl,hno,rfl⟩:=hrel;have c0:U.cell? ⟨p,0,none⟩=some (.int .i64 K):=BV.out.cell 0;have c1:U.cell? ⟨p,1,none⟩=some (.int .i64 X):=BV.out.cell 1;by_cases hlt:k<all.length
  · obtain⟨y,hy⟩: ∃x,all[k]? =some x:=⟨_,Ya hlt⟩
    obtain⟨b1,o1,rfl, -,g0⟩:=ZbE HA.out (OU.out.below HBB.out fun _ h=>h.elim) hy;have HY:=ZZ hy;clear hy;by_cases hk2:K=2
    · subst hk2
      by_cases hyx:X=y
      · subst hyx
        have HF:=ZZ (HQ.out.trans (if_pos ⟨rfl,Yo HY.out⟩));have HP:=ZZ (ZnI HY.out fun j z hj hz=>hno.out rfl j z hj hz);go_wp2
        go_quiet (fail)
        rename_i nq
        have b0:U.cell? ⟨w.heap.size,0,none⟩=some (.int .i64 0):=BR.out.cell 0;have b1:U.cell? ⟨w.heap.size,1,none⟩=some (.int .i64 0):=BR.out.cell 1;have fb0:=BR.out.free 0;have fb1:=BR.out.free 1;obtain⟨W4,hW4,o4,r0,r1⟩:=ZcK (OU.out.drewN (m+nq)) (Yj _) (show Blk (U.drewN (m+nq)) w.heap.size 63 #[.int .i64 0,.int .i64 0] from BR.out) 2 (k:Int);have HW4:=ZZ hW4;have O4:=ZZ o4;have HFP:=ZZ (show q=(2,(k:Int)) by rw[HF.out,HP.out]);clear hW4 o4;go_wp2;rw[HW4.out];refine bodyPost_ret (v:=.agg #[.int .i64 2,.int .i64 (k:Int)]) (by simp[results,Tryz.results34,go_sem,r0,r1]) rfl ⟨by rw[HFP.out],O4.out⟩
      · have hbq:(X==y)=false:=by simpa using hyx
        have HNX:=ZZ (ZkS hno.out HY.out fun _=>fun e=>hyx e.symm);clear hyx;go_wp2
        go_quiet (fail)
        go_wp2
        go_roundw
        case rel=>exact⟨k+1,_,by omega,by go_num,HNX,rfl⟩
        case measure=>simp[intOf];omega
    · have hbq:(K==2)=false:=by simpa using hk2
      have HNX:=ZZ (ZkS hno.out HY.out fun e=>absurd e hk2);clear hk2;go_wp2
      go_quiet (fail)
      go_wp2
      go_roundw
      case rel=>exact⟨k+1,_,by omega,by go_num,HNX,rfl⟩
      case measure=>simp[intOf];omega
  · obtain rfl:k=all.length:=by omega
    have HF:=ZZ (show q=(K,X) from HQ.out.trans (if_neg fun ⟨e,hm⟩=>by
     obtain⟨j,hj⟩:=List.getElem?_of_mem hm
     exact hno.out e j X (Yk.1 hj).1 hj rfl))
    have b0:U.cell? ⟨w.heap.size,0,none⟩=some (.int .i64 0):=BR.out.cell 0;have b1:U.cell? ⟨w.heap.size,1,none⟩=some (.int .i64 0):=BR.out.cell 1;have fb0:=BR.out.free 0;have fb1:=BR.out.free 1;obtain⟨W4,hW4,o4,r0,r1⟩:=ZcK (OU.out.drewN m) (Yj _) (show Blk (U.drewN m) w.heap.size 63 #[.int .i64 0,.int .i64 0] from BR.out) K X;have HW4:=ZZ hW4;have O4:=ZZ o4;clear hW4 o4;go_wp2;rw[HW4.out];refine bodyPost_ret (v:=.agg #[.int .i64 K,.int .i64 X]) (by simp[results,Tryz.results34,go_sem,r0,r1]) rfl ⟨by rw[HF.out],O4.out⟩
end
end Go.Proofs.YteieocddfnlmdaaGreatDoor
