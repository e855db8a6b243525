/- The document's own plans: a whole one. (Printed by wip/tools -/
import Derived.Test.YteieocddfnlmdaaGreatDoorQ28
import Derived.Test.YteieocddfnlmdaaGreatDoorQ34
set_option maxRecDepth 100000
set_option maxHeartbeats 32000000
set_option linter.unusedSimpArgs false
set_option linter.unusedVariables false
namespace Go.Proofs.YteieocddfnlmdaaGreatDoor
open Go.RowKit Go.Lib
theorem ZoQ (b base B:Nat) (g:Gr) (vn vr:Value) (hs:List (Value×Value)) (lim blk order:Int) (hg:Z9 g=true) (hN:g.nd.length≤1000):LookP b base B g vn vr hs lim blk (order==1) (ZS g lim order) (g.nd.length+1):=by
 by_cases ho:order=1
 · subst ho
   have h:=ZsL b base B g vn vr hs lim blk hg hN (g.nd.length+1);refine⟨fun W v s A c l p1 p2 p3 p4 p5 p6 p7 p8 p9=>?_⟩
   have:=h.call W v s A c l p1 p2 p3 p4 p5 p6 p7 p8 p9
   unfold ZS;rw[if_pos rfl];exact this
 · have h:=Zs2 b base B g vn vr hs lim blk hg hN
   refine⟨fun W v s A c l p1 p2 p3 p4 p5 p6 p7 p8 p9=>?_⟩
   have:=h.call W v s A c l p1 p2 p3 p4 p5 p6 p7 (by omega) p9
   unfold ZS;rw[if_neg ho,show(order==1)=false by simpa using ho];exact this
theorem ZhG {g:Gr} (hg:Z9 g=true) (hN:g.nd.length≤1000000) {lim order:Int} {l:List Sp} {s:PSt} (h:Bg s) (hw:Wf g s) (ho:Okl g l):Bg (ZS g lim order l s):=by
 unfold ZS
 split
 · exact Bg.lookD hg hN _ l s h hw ho (by omega)
 · exact Bg.lookW hg hN l s h hw ho
theorem ZlJ {w:World} {base:Nat} {E:TypeId} {g n c:Nat} {xs:List Value} {x:Value} (h:w.ownsRow base E 1 (.slice (some ⟨g,0,none⟩) (n+1) c) (n+1) (xs++[x])):w.ownsRow base E 1 (.slice (some ⟨g,0,none⟩) n c) n xs:=by
 have hl:xs.length=n:=by simpa using h.1
 refine⟨by omega,?_⟩
 rcases h.2 with⟨h0,_⟩|⟨g2,cap,cur,e,hb,hg,h1,h2,h3,h4⟩
 · cases h0
 · simp only[Value.slice.injEq,Option.some.injEq,Addr.mk.injEq] at e
   obtain⟨⟨rfl, -, -⟩, -,rfl⟩:=e;refine .inr ⟨g,c,cur,rfl,hb,hg,by omega,h2,h3,?_⟩
   have:=congrArg (List.take n) h4
   rw[List.take_take,Nat.mul_one,Nat.min_eq_left (by omega),List.take_left' hl] at this;rw[Nat.mul_one];exact this
theorem Ztf {W:World} {b base:Nat} {vn vr:Value} {lim blk:Int} {v:PV} {s:PSt} (h:Pm W b base vn vr lim blk v s) {gp n c:Nat} {P:List Int} {x:Int} (hv:v.p=.slice (some ⟨gp,0,none⟩) (n+1) c) (hp:s.pile=P++[x]) (hn:P.length=n):
 Pm (W.setCell ⟨b,8,none⟩ (.slice (some ⟨gp,0,none⟩) n c)) b base vn vr lim blk {v with p:=.slice (some ⟨gp,0,none⟩) n c} {s with pile:=P}∧Only (ZeY base) W (W.setCell ⟨b,8,none⟩ (.slice (some ⟨gp,0,none⟩) n c)):=by
 have ho:=Zd W b 8 (.slice (some ⟨gp,0,none⟩) n c)
 have ne: ∀{E:TypeId} {n:Nat} {u:Value} {xs:List Value},W.ownsRow base E 1 u n xs→179≠E→ ∀k,u.ownBlock=some k→ ¬isb b k:=fun hw hE k e e2=>by
  unfold isb at e2;subst e2;exact ZL h.box hw hE e
 have hpl:=h.pl;rw[hv,hp] at hpl;simp only[Ys,List.length_singleton,hn] at hpl;have h2:=ZlJ (show W.ownsRow base 3 1 (.slice (some ⟨gp,0,none⟩) (n+1) c) (n+1) (i64s P++[.int .i64 x]) by rw[ZI] at hpl;exact hpl)
 have hob: ∀k,(Value.slice (some ⟨gp,0,none⟩) n c).ownBlock=some k→v.p.ownBlock=some k:=fun k e=>by rw[hv];exact e
 exact⟨⟨(by simpa using h.box.put 8 (.slice (some ⟨gp,0,none⟩) n c)),h.new,Za h.sm ho (ne h.sm (by decide)),Za h.bg ho (ne h.bg (by decide)),Za h.lk ho (ne h.lk (by decide)),Za h.lg ho (ne h.lg (by decide)),(by rw[hn];exact Za h2 ho (ne h2 (by decide))),h.sb,h.sg,fun k e e2=>h.sp k e (hob k e2),h.bgx,fun k e e2=>h.bp k e (hob k e2),fun k e e2=>h.gp k e (hob k e2)⟩,ho.mono fun k _ e=>by unfold isb at e;rw[e];exact h.new⟩
structure PG (g:Gr) (s:PSt):Prop where
 wf:Wf g s
 cl:Cl g s
 bg:Bg s
theorem ZqX {order block:Int} {s:PSt}:(ZcH order block s=none∧Zho order block s= -1)∨ ∃i,ZcH order block s=some i∧Zho order block s=(i:Nat):=by
 unfold Zho
 cases ZcH order block s with
 |none=>exact .inl ⟨rfl,rfl⟩
 |some i=>exact .inr ⟨i,rfl,rfl⟩
theorem Zul (g:Gr) (vn vr:Value) (hs:List (Value×Value)) (B:Nat) (W:World) (lim order block:Int) (hr:RdG W B g vn vr hs) (hB:B≤W.heap.size) (hg:Z9 g=true) (hN:g.nd.length≤1000) (hb1:1≤block) (hbm:block≤9223372036854775807):
 Calls Tryz.prog 123 #[.agg #[vn,vr],.int .i64 lim,.int .i64 order,.int .i64 block] W fun e w'=> ∃b base v,e=.returned (.pointer (some ⟨b,0,none⟩))∧Pm w' b base vn vr lim block v (ZbZ g lim order block)∧W.heap.size≤base∧Only nob W w':=by
 obtain⟨An,cn,rfl,hacn,hcmn⟩:=hr.nodes.form;obtain⟨Ar,cr,rfl,hacr,hcmr⟩:=hr.roots.form
 obtain⟨W1,hW1,o1,b1,s1⟩: ∃X,W.alloc (.cells #[.slice An g.nd.length cn,.slice Ar g.rt.length cr] 34)=X∧Only nob W X∧Blk X W.heap.size 34 #[.slice An g.nd.length cn,.slice Ar g.rt.length cr]∧X.heap.size=W.heap.size+1:=⟨_,rfl,(Only.refl nob W).alloc _,Blk.new _ _ _,by simp⟩
 obtain⟨W2,hW2,o2,b2,s2⟩: ∃X,W1.alloc (.cells #[.slice An g.nd.length cn,.slice Ar g.rt.length cr,.int .i64 lim,.int .i64 block,.slice none 0 0,.slice none 0 0,.slice none 0 0,.slice none 0 0,.slice none 0 0,.int .i64 0] 179)=X∧Only nob W1 X∧Blk X W1.heap.size 179 #[.slice An g.nd.length cn,.slice Ar g.rt.length cr,.int .i64 lim,.int .i64 block,.slice none 0 0,.slice none 0 0,.slice none 0 0,.slice none 0 0,.slice none 0 0,.int .i64 0]∧X.heap.size=W1.heap.size+1:=⟨_,rfl,(Only.refl nob W1).alloc _,Blk.new _ _ _,by simp⟩
 have HW1:=ZZ hW1;have HW2:=ZZ hW2
 obtain⟨b,hb⟩: ∃b,b=W1.heap.size:=⟨_,rfl⟩
 obtain⟨gb,hgb⟩: ∃b,b=W.heap.size:=⟨_,rfl⟩
 have hbs:=s1;rw[← hb] at b2
 have P0:Pm W2 b b (.slice An g.nd.length cn) (.slice Ar g.rt.length cr) lim block ⟨.slice none 0 0,.slice none 0 0,.slice none 0 0,.slice none 0 0,.slice none 0 0⟩ .none:=
  ⟨b2,Yj _,World.ownsRow_nil _ _ _ _,World.ownsRow_nil _ _ _ _,World.ownsRow_nil _ _ _ _,World.ownsRow_nil _ _ _ _,World.ownsRow_nil _ _ _ _,(fun _ h=>by cases h),(fun _ h=>by cases h),(fun _ h=>by cases h),(fun _ h=>by cases h),(fun _ h=>by cases h),(fun _ h=>by cases h)⟩
 have HP0:=ZZ P0;have O2:=ZZ (o1.trans o2);have HG2:=ZZ (hr.only (o1.trans o2) hB);have HBb:=ZZ (show B≤b∧gb<b∧b≤W2.heap.size∧W.heap.size≤b by omega);have HGB:=ZZ (show Blk W2 gb 34 #[.slice An g.nd.length cn,.slice Ar g.rt.length cr] from hgb▸b1.keep o2 id)
 have HLO:=ZZ (fun (W':World) (v:PV) (s:PSt) (A:Option Addr) (c:Nat) (l:List Sp) (h:Pm W' b b (.slice An g.nd.length cn) (.slice Ar g.rt.length cr) lim block v s) (o:Only (ZeY b) W2 W') (hw:Wf g s) (hbg:Bg s) (ho:Okl g l) (hl:Sl W' B 2 (.slice A l.length c) l.length (spc l))=>
  (ZoQ b b B g (.slice An g.nd.length cn) (.slice Ar g.rt.length cr) hs lim block order hg hN).call W' v s A c l h ((hr.only (o1.trans o2) hB).below (o.below (by omega) fun k hk=>Yi (by omega) (show b≤k from hk))) (by omega) (Yi (by omega) o.size) hw hbg ho (by omega) hl)
 obtain⟨m0,hm0⟩:=ZmJ lim order block hg
 obtain⟨F,hF⟩: ∃F,F=ZbZ g lim order block:=⟨_,rfl⟩
 rw[← hF] at hm0 ⊢;obtain⟨hsw,hsc⟩:=ZdU lim order hg;have HM0:=ZZ hm0;have HPG:=ZZ (show PG g (ZS g lim order g.rt .none) from⟨hsw,hsc,ZhG hg (by omega) Bg.none_ (Zhf g) (Zqu hg)⟩);have hroots:Sl W2 B 2 (.slice Ar g.rt.length cr) g.rt.length (spc g.rt):=HG2.out.roots;have HC0:=ZZ ((ZoQ b b B g (.slice An g.nd.length cn) (.slice Ar g.rt.length cr) hs lim block order hg hN).call W2 _ _ Ar cr g.rt P0 HG2.out HBb.out.1 HBb.out.2.2.1 (Zhf g) Bg.none_ (Zqu hg) (by omega) hroots);have HGG:=ZZ hg
 obtain⟨ob,hob⟩: ∃ob,(order==1)=ob:=⟨_,rfl⟩
 rw[hob] at HLO HC0;have e0:W2.cell? ⟨gb,0,none⟩=some (.slice An g.nd.length cn):=HGB.out.cell 0;have e1:W2.cell? ⟨gb,1,none⟩=some (.slice Ar g.rt.length cr):=HGB.out.cell 1
 have w1c0:W1.cell? ⟨gb,0,none⟩=some (.slice An g.nd.length cn):=by rw[hgb];exact b1.cell 0
 have w1c1:W1.cell? ⟨gb,1,none⟩=some (.slice Ar g.rt.length cr):=by rw[hgb];exact b1.cell 1
 have HBE:=ZZ hb;have HGE:=ZZ hgb;unfold maxLen at hcmn;clear hW1 hW2 o1 o2 b1 b2 s1 s2 hr hB P0 hm0 hF hsw hsc hroots hg hbs hb hgb
 go_enter Tryz.func123,Tryz.ntmps123
 go_upto_region 1 with fail
 rw[HW1.out, ← HGE.out]
 go_upto_region 2 with(with_reducible rw[HW2.out])
 rw[← HBE.out];clear w1c0 w1c1
 go_wp2_with fail
 go_at_call 169;refine HC0.out.mono ?_;rintro e w3 ⟨rfl,v3,P3,o3⟩;have HP3:=ZZ P3;have HO3:=ZZ o3;clear P3 o3 e0 e1
 go_wp2_with fail
 go_loopw [10,11,12] (fun _ _ _ wr=>Hid (∃m s v,Pm wr b b (.slice An g.nd.length cn) (.slice Ar g.rt.length cr) lim block v s∧PG g s∧StR g lim order block m s F)∧Hid (Only (ZeY b) W2 wr)) (fun _ _ _ wr=>Zde fun m=> ∃s v,Pm wr b b (.slice An g.nd.length cn) (.slice Ar g.rt.length cr) lim block v s∧PG g s∧StR g lim order block m s F)
 case atStart=>exact⟨ZZ ⟨m0,_,v3,HP3.out,HPG.out,HM0.out⟩,HO3⟩
 case round=>
  obtain⟨HP,HO⟩:=hrel
  obtain⟨m,hm⟩: ∃m,m=Zde fun m=> ∃s v,Pm wr b b (.slice An g.nd.length cn) (.slice Ar g.rt.length cr) lim block v s∧PG g s∧StR g lim order block m s F:=⟨_,rfl⟩
  have HM:=ZZ hm;have hmin:=ZiB HP.out;rw[← hm] at hmin;obtain⟨s,v,hP,hG,hst⟩:=hmin;have HPs:=ZZ hP;have HGs:=ZZ hG;have HST:=ZZ hst;have hroom:=hG.wf.room;rw[ZW] at hroom;have htn:=hG.bg.tn;have HNX:=ZZ (ZsX wr b b _ _ lim block order v s hP hb1 hbm hG.wf.lk hG.wf.bg fun c hc=>by have:=hG.bg.bs c hc;omega);have HBl:=ZZ (HO.out.below (B:=B) (Yi HBb.out.1 HBb.out.2.2.1) fun k hk=>Yi HBb.out.1 (show b≤k from hk))
  have hgo: ∀m' s' v' w',m=m'+1→Pm w' b b (.slice An g.nd.length cn) (.slice Ar g.rt.length cr) lim block v' s'→PG g s'→StR g lim order block m' s' F→(Zde fun m=> ∃s v,Pm w' b b (.slice An g.nd.length cn) (.slice Ar g.rt.length cr) lim block v s∧PG g s∧StR g lim order block m s F)<Zde fun m=> ∃s v,Pm wr b b (.slice An g.nd.length cn) (.slice Ar g.rt.length cr) lim block v s∧PG g s∧StR g lim order block m s F:=fun m' s' v' w' h1 h2 h3 h4=>by
   rw[← HM.out,h1];exact Nat.lt_of_le_of_lt (ZfT ⟨s',v',h2,h3,h4⟩) (Nat.lt_succ_self _)
  have HGO:=ZZ hgo;clear hm hP hG hst HP hroom htn hgo
  rcases ZqX (order:=order) (block:=block) (s:=s) with⟨hn1,hn2⟩|⟨i,hn1,hn2⟩
  · rw[hn2] at HNX
    have HN1:=ZZ hn1;clear hn1 hn2
    go_wp2_with fail
    go_at_call 170;refine HNX.out.mono ?_;rintro e w4 ⟨rfl,o4⟩;have HO4:=ZZ (HO.out.trans (ZcN o4));have HP4:=ZZ (HPs.out.nob o4);obtain⟨vs,vb,vl,vg,vp⟩:=v;obtain⟨A8,k8,e8,hc8,hm8, -⟩:=Pm.sl HP4.out.pl;simp only at e8;subst e8;have c8:w4.cell? ⟨b,8,none⟩=some (.slice A8 s.pile.length k8):=HP4.out.box.cell 8;unfold maxLen at hm8;clear o4
    rcases List.eq_nil_or_concat s.pile with hp|⟨P,x,hp⟩
    · have HF:=ZZ (show s=F by
       have h0:ZaY g lim order block s=none:=by unfold ZaY;rw[HN1.out];simp only;rw[hp];rfl
       cases HST.out with
       |stop _=>rfl
       |go h _=>rw[h0] at h;cases h)
      rw[hp] at c8;simp only[List.length_nil] at c8;clear hp hc8;go_wp2;go_ret;refine⟨b,b,_,rfl,HF.out▸HP4.out,HBb.out.2.2.2,O2.out.andThen HO4.out fun i hi e=>by have:=HBb.out.2.2.2;unfold ZeY at e;omega⟩
    · rw[List.concat_eq_append] at hp
      obtain⟨n1,hn1⟩: ∃n,n=P.length:=⟨_,rfl⟩
      have hlen:s.pile.length=n1+1:=by rw[hp,hn1];simp
      rw[hlen] at c8 hc8
      have hxm:x∈s.pile:=by rw[hp];simp
      have hmem:x∈s.met:=Yr.2 (.inr (HGs.out.wf.pl _ hxm));have hxr:=HGs.out.wf.rng _ hmem
      have hlast:s.pile.getLast? =some x:=by rw[hp];simp
      have hdrop:s.pile.dropLast=P:=by rw[hp];simp
      have hstep:ZaY g lim order block s=some (ZS g lim order (ZbB g x) {s with pile:=P}):=by unfold ZaY;rw[HN1.out];simp only;rw[hlast, ← hdrop]
      obtain⟨m',hm',hst'⟩: ∃m',m=m'+1∧StR g lim order block m' (ZS g lim order (ZbB g x) {s with pile:=P}) F:=by
       cases HST.out with
       |stop h=>rw[hstep] at h;cases h
       |go h k=>rw[hstep] at h;exact⟨_,rfl,Yp h▸k⟩
      have hw0:Wf g {s with pile:=P}:=hdrop▸(⟨HGs.out.wf.nodup,HGs.out.wf.rng,HGs.out.wf.rch,HGs.out.wf.lk,HGs.out.wf.bg,fun y hy=>HGs.out.wf.pl y (List.dropLast_subset _ hy),HGs.out.wf.pn.sublist (List.dropLast_sublist _)⟩:Wf g {s with pile:=s.pile.dropLast})
      have hb0:Bg {s with pile:=P}:=⟨HGs.out.bg.bs,HGs.out.bg.tn⟩
      have hfs:=Zg7 HGG.out (HGs.out.wf.rch _ hmem) hxr;obtain⟨q1,q2, -⟩:=ZjE HGG.out HGs.out.wf HGs.out.cl hstep;have HPG':=ZZ (show PG g (ZS g lim order (ZbB g x) {s with pile:=P}) from⟨q1,q2,ZhG HGG.out (by omega) hb0 hw0 hfs⟩);have HFS:=ZZ hfs;have HW0:=ZZ hw0;have HB0:=ZZ hb0;have HMM:=ZZ hm';have HS':=ZZ hst';obtain⟨gp,cp,ep,hcp,hmp,hbp⟩:=ZcV HP4.out.pl (by rw[hlen];omega);simp only[hlen] at ep
      obtain⟨rfl,rfl⟩:A8=some ⟨gp,0,none⟩∧k8=cp:=by simpa[hlen] using ep
      obtain⟨bz,oz,cz,ez, -, -, -,hcz⟩:=(Pm.sl HP4.out.pl).at_ (by rw[hlen];omega)
      obtain⟨⟨rfl,rfl⟩,rfl⟩:(gp=bz∧0=oz)∧k8=cz:=by simpa using ez
      have x8:w4.cell? ⟨gp,n1,none⟩=some (.int .i64 x):=by
       simpa using hcz n1 _ (Zdj (show s.pile[n1]? =some x by rw[hp,List.getElem?_append_right (by omega),hn1];simp))
      obtain⟨P5,o5⟩:=Ztf HP4.out (P:=P) (x:=x) (gp:=gp) (n:=n1) (c:=k8) (by rw[hlen]) hp hn1.symm;have f8:=HP4.out.box.free 8
      obtain⟨W5,hW5⟩: ∃X,w4.setCell ⟨b,8,none⟩ (.slice (some ⟨gp,0,none⟩) n1 k8)=X:=⟨_,rfl⟩
      rw[hW5] at P5 o5;have HW5:=ZZ hW5;have HP5:=ZZ P5;have HO5:=ZZ (HO4.out.trans o5);obtain⟨j0,hj0,hy0,hy1,hy2⟩:=info_parts Zac;have hcut:=Zfn (P:=Tryz.prog) Tryz.underlying35 hj0 (some ⟨gp,0,none⟩) (n1+1) k8 n1 (by omega);rw[hy1,show Zcy (some ⟨gp,0,none⟩) 0 n1 k8 1=.slice (some ⟨gp,0,none⟩) n1 k8 by unfold Zcy;rw[if_neg (by omega)];simp[Addr.add]] at hcut
      obtain⟨n2,hn2⟩: ∃m,m=n1+1:=⟨_,rfl⟩
      have hws:IntKind.i64.wrap ((n2:Int) - 1)=(n1:Int):=by rw[IntWalk.i64_in _ (by omega)];omega
      rw[← hn2] at c8 hc8 hcut
      have hlt:n1<n2:=by omega
      have hn0:((n2:Int)==0)=false:=by
       have: ¬((n2:Int)=0):=by omega
       simpa using this
      obtain⟨xn,hxn⟩: ∃y:Nat,x=y:=⟨x.toNat,by have:=hxr.1;omega⟩
      subst hxn
      have hlt2:xn<g.nd.length:=by have:=hxr.2;omega
      obtain⟨d,hd⟩: ∃d,g.nd[xn]? =some d:=⟨_,Ya hlt2⟩
      have HBl5:=ZZ (HO5.out.below (B:=B) (Yi HBb.out.1 HBb.out.2.2.1) fun k hk=>Yi HBb.out.1 (show b≤k from hk));obtain⟨bb,oo,fv,rv,hA,hbb,hh',m0,m1,m2,hnd⟩:=HG2.out.at_ HBl5.out hd;subst hA;obtain⟨Af,cf,hfv,hafc,hcfm⟩:=hnd.fields.form;simp only at hfv;subst hfv;have HFD:=ZZ (ZeW hd);have e0:W5.cell? ⟨gb,0,none⟩=some (.slice (some ⟨bb,oo,none⟩) g.nd.length cn):=(HGB.out.keep HO5.out fun e=>by have:=HBb.out.2.1;unfold ZeY at e;omega).cell 0;have HCL:=ZZ (HLO.out W5 _ _ Af cf d.fs P5 HO5.out hw0 hb0 (by rw[← ZeW hd];exact hfs) hnd.fields);rw[← HFD.out] at HCL;clear P5 o5 hW5 ep ez hcz hp hn1 hn2 hlen hxm hmem hxr hlast hdrop hstep hm' hst' hw0 hb0 hfs q1 q2 hd hnd hh' hbb m0 m2 hafc hcfm hmp hbp hcp
      go_wp2_with (first|(with_reducible rw[HW5.out]))
      go_at_call 169;rw[HFD.out] at HCL;refine HCL.out.mono ?_;rintro e w6 ⟨rfl,v6,P6,o6⟩;rw[← HFD.out] at P6;have HP6:=ZZ P6;have HO6:=ZZ (HO5.out.trans o6);clear P6 o6 e0 m1 c8 x8 f8;go_wp2
      go_roundw
      case rel=>exact⟨ZZ ⟨_,_,v6,HP6.out,HPG'.out,HS'.out⟩,HO6⟩
      case measure=>exact HGO.out _ _ v6 _ HMM.out HP6.out HPG'.out HS'.out
  · rw[hn2] at HNX
    obtain⟨hilt,hilk⟩:=Zga hn1
    have hx:s.small[i]? =some (s.small.getD i 0):=by rw[Yn,Ya hilt];rfl
    obtain⟨x,hxx⟩: ∃x,x=s.small.getD i 0:=⟨_,rfl⟩
    rw[← hxx] at hx;have hmem:x∈s.met:=Yr.2 (.inl (Yo hx));have hxr:=HGs.out.wf.rng _ hmem
    have hstep:ZaY g lim order block s=some (ZS g lim order (ZbB g x) (s.mark i)):=by unfold ZaY;rw[hn1,hxx]
    obtain⟨m',hm',hst'⟩: ∃m',m=m'+1∧StR g lim order block m' (ZS g lim order (ZbB g x) (s.mark i)) F:=by
     cases HST.out with
     |stop h=>rw[hstep] at h;cases h
     |go h k=>rw[hstep] at h;exact⟨_,rfl,Yp h▸k⟩
    have hfs:=Zg7 HGG.out (HGs.out.wf.rch _ hmem) hxr;obtain⟨q1,q2, -⟩:=ZjE HGG.out HGs.out.wf HGs.out.cl hstep;have HPG':=ZZ (show PG g (ZS g lim order (ZbB g x) (s.mark i)) from⟨q1,q2,ZhG HGG.out (by omega) (HGs.out.bg.mark i) (HGs.out.wf.mark i) hfs⟩);have HFS:=ZZ hfs;have HMM:=ZZ hm';have HS':=ZZ hst'
    have hllt:i<s.looked.length:=by rw[HGs.out.wf.lk];exact hilt
    have hlf:s.looked[i]? =some false:=by
     rw[Yn,Ya hllt] at hilk;rw[Ya hllt];exact congrArg some hilk
    obtain⟨xn,hxn⟩: ∃y:Nat,x=y:=⟨x.toNat,by have:=hxr.1;omega⟩
    subst hxn
    have hlt2:xn<g.nd.length:=by have:=hxr.2;omega
    obtain⟨d,hd⟩: ∃d,g.nd[xn]? =some d:=⟨_,Ya hlt2⟩
    have HD:=ZZ hd;have HXS:=ZZ hx;have HIL:=ZZ (And.intro hilt hllt);have HLF:=ZZ hlf
    have hi0:(0:Int)≤(i:Int):=by omega
    clear hn1 hn2 hilt hilk hx hxx hmem hxr hstep hm' hst' hfs q1 q2 hllt hlf hd
    go_wp2_with fail
    go_at_call 170;refine HNX.out.mono ?_;rintro e w4 ⟨rfl,o4⟩;have HO4:=ZZ (HO.out.trans (ZcN o4));have HP4:=ZZ (HPs.out.nob o4);clear o4;obtain⟨us,ub,ul,ug,up⟩:=v;obtain⟨g3,c3,hul,hc3,hm3,hb3⟩:=ZcV HP4.out.lk (by have:=HIL.out.2;omega);simp only at hul;subst hul
    obtain⟨n3,hn3⟩: ∃n,n=s.looked.length:=⟨_,rfl⟩
    have c6:w4.cell? ⟨b,6,none⟩=some (.slice (some ⟨g3,0,none⟩) n3 c3):=by rw[hn3];exact HP4.out.box.cell 6
    have hil3:i<n3:=by rw[hn3];exact HIL.out.2
    rw[← hn3] at hc3;obtain⟨b9,o9,c9,e9, -, -, -,h9⟩:=(Pm.sl HP4.out.lk).at_ (by have:=HIL.out.2;omega)
    obtain⟨⟨rfl,rfl⟩,rfl⟩:(g3=b9∧0=o9)∧c3=c9:=by simpa using e9
    have k6:w4.cell? ⟨g3,i,none⟩=some (.bool false):=by simpa using h9 i _ (Zko HLF.out)
    have f6:w4.frozen? ⟨g3,i,none⟩=false:=by
     rcases HP4.out.lk.2 with⟨h0,_⟩|⟨g4,cap,cur,e,_,hgg,_⟩
     · cases h0
     · simp only[Value.slice.injEq,Option.some.injEq,Addr.mk.injEq] at e
       obtain⟨⟨rfl, -, -⟩, -, -⟩:=e;exact Blk.free (w:=w4) (t:=4) hgg i
    obtain⟨P5,o5⟩:=Zoe HP4.out (k:=i) rfl HIL.out.2
    obtain⟨W5,hW5⟩: ∃X,w4.setCell ⟨g3,i,none⟩ (.bool true)=X:=⟨_,rfl⟩
    rw[hW5] at P5 o5;have HW5:=ZZ hW5;have HP5:=ZZ P5;have HO5:=ZZ (HO4.out.trans o5);unfold maxLen at hm3;obtain⟨A4,k4,e4,hc4,hm4, -⟩:=Pm.sl P5.sm;simp only at e4;subst e4
    obtain⟨ns,hns⟩: ∃n,n=s.small.length:=⟨_,rfl⟩
    have HBl5:=ZZ (HO5.out.below (B:=B) (Yi HBb.out.1 HBb.out.2.2.1) fun k hk=>Yi HBb.out.1 (show b≤k from hk));obtain⟨bb,oo,fv,rv,hA,hbb,hh',m0,m1,m2,hnd⟩:=HG2.out.at_ HBl5.out HD.out;subst hA;obtain⟨Af,cf,hfv,hafc,hcfm⟩:=hnd.fields.form;simp only at hfv;subst hfv;have HFL:=ZZ hnd.fields;have HFD:=ZZ (ZeW HD.out);have e0:W5.cell? ⟨gb,0,none⟩=some (.slice (some ⟨bb,oo,none⟩) g.nd.length cn):=(HGB.out.keep HO5.out fun e=>by have:=HBb.out.2.1;unfold ZeY at e;omega).cell 0;have HBB2:=ZZ hbb;clear P5 o5 hW5 e9 h9 hb3 hn3 hnd hh' hbb m0 m2 hafc hcfm hc4 hm4
    go_upto_region 6 with fail
    with_reducible rw[HW5.out]
    clear c6 k6 f6;refine wp_region_held_drew (S:=fun w':World=>w'.cell? ⟨gb,0,none⟩=some (.slice (some ⟨bb,oo,none⟩) g.nd.length cn)∧w'.cell? ⟨bb,oo+xn * 3+1,none⟩=some (.slice Af d.fs.length cf)) (by kernel_rfl) ?_ (fun hHeld=>?_)
    · exact⟨e0,m1⟩
    clear e0 m1
    obtain⟨WD,hWD,oD⟩: ∃X,W5.drew=X∧Only nob W5 X:=⟨_,rfl,(Only.refl nob W5).drewN 1⟩
    rw[hWD] at hHeld ⊢;have HPD:=ZZ (HP5.out.nob oD);have HOD:=ZZ (HO5.out.trans (ZcN oD));have HCL:=ZZ (HLO.out WD _ _ Af cf d.fs HPD.out HOD.out (HGs.out.wf.mark i) (HGs.out.bg.mark i) (by rw[← HFD.out];exact HFS.out) (HFL.out.only oD (Yi (Yi HBb.out.1 HBb.out.2.2.1) HO5.out.size) fun _ h=>h.elim))
    have c4:WD.cell? ⟨b,4,none⟩=some (.slice A4 ns k4):=by rw[hns];exact HPD.out.box.cell 4
    have his:i<ns:=by rw[hns];exact HIL.out.1
    obtain⟨b7,o7,c7,e7,hc7,hm7, -,h7⟩:=(Pm.sl HPD.out.sm).at_ (by show 0<s.small.length;have:=HIL.out.1;omega)
    have hA4:A4=some ⟨b7,o7,none⟩:=by simpa using(congrArg (fun v=>match v with|Value.slice a _ _=>a|_=>none) e7)
    subst hA4;have x4:WD.cell? ⟨b7,o7+i,none⟩=some (.int .i64 xn):=h7 i _ (Zdj HXS.out);clear hWD oD e7 h7 hns hc7 hm7;refine wpAnyH_take (i:=0) (v:=?_) rfl (by kernel_rfl) (by kernel_rfl) (by kernel_rfl) (fun _ _ _ h=>h) (Or.inl ⟨by rfl,?_⟩) hHeld ?_;rotate_left
    · intro w hSw;(try dsimp only at hSw);go_simp;first|done|with_reducible rfl
    try simp only[Act.put,Yb,Yd,Yc,Yh,Yf,Yg]
    refine wpAnyH_take (i:=1) (v:=?_) rfl (by kernel_rfl) (by kernel_rfl) (by kernel_rfl) (fun _ _ _ h=>h) (Or.inl ⟨by rfl,?_⟩) hHeld ?_;rotate_left
    · intro w hSw;(try dsimp only at hSw);go_simp;first|done|with_reducible rfl
    try simp only[Act.put,Yb,Yd,Yc,Yh,Yf,Yg]
    refine wpAnyH_take (i:=2) (v:=?_) rfl (by kernel_rfl) (by kernel_rfl) (by kernel_rfl) (fun _ _ _ h=>h) (Or.inl ⟨by rfl,?_⟩) hHeld ?_;rotate_left
    · intro w hSw;(try dsimp only at hSw);go_simp;first|done|with_reducible rfl
    try simp only[Act.put,Yb,Yd,Yc,Yh,Yf,Yg]
    refine wpAnyH_take (i:=3) (v:=?_) rfl (by kernel_rfl) (by kernel_rfl) (by kernel_rfl) (fun _ _ _ h=>h) (Or.inl ⟨by rfl,?_⟩) hHeld ?_;rotate_left
    · intro w hSw;(try dsimp only at hSw);go_simp;first|done|with_reducible rfl
    try simp only[Act.put,Yb,Yd,Yc,Yh,Yf,Yg]
    refine wpAnyH_take (i:=4) (v:=?_) rfl (by kernel_rfl) (by kernel_rfl) (by kernel_rfl) (fun _ _ _ h=>h) (Or.inl ⟨by rfl,?_⟩) hHeld ?_;rotate_left
    · intro w hSw;(try dsimp only at hSw);go_simp;first|done|with_reducible rfl
    try simp only[Act.put,Yb,Yd,Yc,Yh,Yf,Yg]
    refine wpAnyH_take (i:=5) (v:=?_) rfl (by kernel_rfl) (by kernel_rfl) (by kernel_rfl) (fun _ _ _ h=>h) (Or.inl ⟨by rfl,?_⟩) hHeld ?_;rotate_left
    · intro w hSw;(try dsimp only at hSw);go_simp;first|done|with_reducible rfl
    try simp only[Act.put,Yb,Yd,Yc,Yh,Yf,Yg]
    refine wpAnyH_take (i:=7) (v:=?_) rfl (by kernel_rfl) (by kernel_rfl) (by kernel_rfl) (fun _ _ _ h=>h) (Or.inl ⟨by rfl,?_⟩) hHeld ?_;rotate_left
    · intro w hSw;(try dsimp only at hSw);go_simp;first|done|with_reducible rfl
    try simp only[Act.put,Yb,Yd,Yc,Yh,Yf,Yg]
    refine wpAnyH_take (i:=13) (v:=?_) rfl (by kernel_rfl) (by kernel_rfl) (by kernel_rfl) (fun _ _ _ h=>h) (Or.inl ⟨by rfl,?_⟩) hHeld ?_;rotate_left
    · intro w hSw;(try dsimp only at hSw);go_simp;first|done|with_reducible rfl
    try simp only[Act.put,Yb,Yd,Yc,Yh,Yf,Yg]
    refine wpAnyH_take (i:=14) (v:=?_) rfl (by kernel_rfl) (by kernel_rfl) (by kernel_rfl) (fun _ _ _ h=>h) (Or.inl ⟨by rfl,?_⟩) hHeld ?_;rotate_left
    · intro w hSw;(try dsimp only at hSw);go_simp;first|done|with_reducible rfl
    try simp only[Act.put,Yb,Yd,Yc,Yh,Yf,Yg]
    refine wpAnyH_ready (rs:=[6]) (by kernel_rfl) (by simp) ?_;refine AllReadyH.cons rfl (fun K hK=>?_) AllReadyH.nil;go_simp;refine hK.out _ _ hHeld (fun hHeld2=>?_);clear hK K hHeld;have hHeld:=hHeld2;clear hHeld2
    try simp only[Act.put,Yb,Yd,Yc,Yh,Yf,Yg]
    refine wpAnyH_ready (rs:=[8]) (by kernel_rfl) (by simp) ?_;refine AllReadyH.cons rfl (fun K hK=>?_) AllReadyH.nil;go_simp;refine hK.out _ _ hHeld (fun hHeld2=>?_);clear hK K hHeld;have hHeld:=hHeld2;clear hHeld2
    try simp only[Act.put,Yb,Yd,Yc,Yh,Yf,Yg]
    refine wpAnyH_ready (rs:=[9]) (by kernel_rfl) (by simp) ?_;refine AllReadyH.cons rfl (fun K hK=>?_) AllReadyH.nil;go_simp;refine hK.out _ _ hHeld (fun hHeld2=>?_);clear hK K hHeld;have hHeld:=hHeld2;clear hHeld2
    try simp only[Act.put,Yb,Yd,Yc,Yh,Yf,Yg]
    refine wpAnyH_ready (rs:=[10]) (by kernel_rfl) (by simp) ?_;refine AllReadyH.cons rfl (fun K hK=>?_) AllReadyH.nil;go_simp;refine hK.out _ _ hHeld (fun hHeld2=>?_);clear hK K hHeld;have hHeld:=hHeld2;clear hHeld2
    try simp only[Act.put,Yb,Yd,Yc,Yh,Yf,Yg]
    refine wpAnyH_ready (rs:=[11]) (by kernel_rfl) (by simp) ?_;refine AllReadyH.cons rfl (fun K hK=>?_) AllReadyH.nil;go_simp;refine hK.out _ _ hHeld (fun hHeld2=>?_);clear hK K hHeld;have hHeld:=hHeld2;clear hHeld2
    try simp only[Act.put,Yb,Yd,Yc,Yh,Yf,Yg]
    obtain⟨r0,r1⟩:=hHeld;have hHeld:=And.intro r0 r1;refine wpAnyH_ready (rs:=[12]) (by kernel_rfl) (by simp) ?_;refine AllReadyH.cons rfl (fun K hK=>?_) AllReadyH.nil;go_simp;refine hK.out _ _ hHeld (fun hHeld2=>?_);clear hK K hHeld;have hHeld:=hHeld2;clear hHeld2
    try simp only[Act.put,Yb,Yd,Yc,Yh,Yf,Yg]
    refine wpAnyH_ready (rs:=[15]) (by kernel_rfl) (by simp) ?_;refine AllReadyH.cons rfl (fun K hK=>?_) AllReadyH.nil;rw[if_pos (by rfl)];go_simp;go_at_call 169;refine HCL.out.mono ?_;rintro e w6 ⟨rfl,v6,P6,o6⟩;rw[← HFD.out] at P6;have HP6:=ZZ P6;have HO6:=ZZ (HOD.out.trans o6);have z0:w6.cell? ⟨gb,0,none⟩=some (.slice (some ⟨bb,oo,none⟩) g.nd.length cn):=(HGB.out.keep HO6.out fun e=>by have:=HBb.out.2.1;unfold ZeY at e;omega).cell 0
    have z1:w6.cell? ⟨bb,oo+xn * 3+1,none⟩=some (.slice Af d.fs.length cf):=by rw[(o6.below (B:=B) (Yi (Yi HBb.out.1 HBb.out.2.2.1) HOD.out.size) fun k hk=>Yi HBb.out.1 (show b≤k from hk)).cell HBB2.out];exact r1
    clear P6 o6;dsimp only;refine hK.out _ _ ⟨z0,z1⟩ (fun hHeld2=>?_);clear hK K hHeld hHeld2 r0 r1 z0 z1 c4 x4
    try simp only[Act.put,Yb,Yd,Yc,Yh,Yf,Yg]
    refine wpAnyH_done (by kernel_rfl) ?_ _;go_wp2
    go_roundw
    case rel=>exact⟨ZZ ⟨_,_,v6,HP6.out,HPG'.out,HS'.out⟩,HO6⟩
    case measure=>exact HGO.out _ _ v6 _ HMM.out HP6.out HPG'.out HS'.out
theorem Zpe {g:Gr} {lim order block:Int} {n:Int} (h:ZaZ g lim order block=n) (hn:n≠0):ZF g lim order block=[]∧ZJ g lim order block=[]:=by
 unfold ZF ZJ;rw[if_neg (by rw[h];exact hn),if_neg (by rw[h];exact hn)];exact⟨rfl,rfl⟩
theorem Zpx:Zum 82:=by
 intro g vn vr hs B W lim order block hr hB hfit hbd hblkm;obtain⟨An,cn,rfl,hacn,hcmn⟩:=hr.nodes.form;obtain⟨Ar,cr,rfl,hacr,hcmr⟩:=hr.roots.form
 obtain⟨W1,hW1,o1,b1⟩: ∃X,W.alloc (.cells #[.slice An g.nd.length cn,.slice Ar g.rt.length cr] 34)=X∧Only nob W X∧Blk X W.heap.size 34 #[.slice An g.nd.length cn,.slice Ar g.rt.length cr]:=⟨_,rfl,(Only.refl nob W).alloc _,Blk.new _ _ _⟩
 have HW1:=ZZ hW1;have O1:=ZZ o1;have HG:=ZZ hr;have HBW:=ZZ hB;have HBD:=ZZ hbd;have HRT:=ZZ (fun (W':World) (o:Only nob W W')=>ZqY g _ _ hs B W' (hr.only o hB) (Yi hB o.size) hfit);have c0:W1.cell? ⟨W.heap.size,0,none⟩=some (.slice An g.nd.length cn):=b1.cell 0;have c1:W1.cell? ⟨W.heap.size,1,none⟩=some (.slice Ar g.rt.length cr):=b1.cell 1
 obtain⟨E,hE⟩: ∃E,E=ZaZ g lim order block:=⟨_,rfl⟩
 have HE:=ZZ hE;rw[← hE]
 obtain⟨gk,hgk⟩: ∃k,k=Z9 g:=⟨_,rfl⟩
 have HGK:=ZZ hgk;rw[← hgk] at HRT;unfold maxLen at hcmn;clear hW1 o1 b1 hr hB hfit hbd hE hgk
 have go: ∀(E':Int),E=E'→E'≠0→ ∀w',Only nob W w'→ ∃v1 v2,Ending.returned (.tuple #[.slice none 0 0,.slice none 0 0,.int .i64 E'])=.returned (.tuple #[v1,v2,.int .i64 E])∧
  OwR w' W.heap.size 3 v1 (ZF g lim order block).length (i64s (ZF g lim order block))∧OwR w' W.heap.size 3 v2 (ZJ g lim order block).length (i64s (ZJ g lim order block))∧Only nob W w':=fun E' h1 h2 w' o=>by
  obtain⟨p1,p2⟩:=Zpe (HE.out.symm.trans h1) h2;refine⟨_,_,by rw[h1],?_,?_,o⟩
  · rw[p1];exact OwR.nil_
  · rw[p2];exact OwR.nil_
 have GO:=ZZ go;clear go
 go_enter Tryz.func82,Tryz.ntmps82
 go_upto_region 1 with fail
 rw[HW1.out]
 go_wp2_with fail
 go_at_call 86;refine(HRT.out W1 O1.out).mono ?_;rintro e w2 ⟨rfl,o2⟩;have O2:=ZZ (O1.out.trans o2);have d0:=o2.keeps c0;have d1:=o2.keeps c1;clear c0 c1 o2
 cases gk with
 |false=>
  have HF:=ZZ (show E=4 by rw[HE.out];unfold ZaZ;rw[if_neg (by rw[← HGK.out];simp)]);clear d0 d1;go_wp2
  go_ret3
  exact GO.out 4 HF.out (by decide) _ O2.out
 |true=>
  have hgk:Z9 g=true:=HGK.out.symm;by_cases hl1:lim<1
  · have HF:=ZZ (show E=1 by rw[HE.out];unfold ZaZ;rw[if_pos hgk,if_pos (.inl hl1)])
    clear d0 d1 hgk;go_wp2
    go_ret3
    exact GO.out 1 HF.out (by decide) _ O2.out
  by_cases hb1:block<1
  · have HF:=ZZ (show E=1 by rw[HE.out];unfold ZaZ;rw[if_pos hgk,if_pos (.inr (.inl hb1))])
    clear d0 d1 hgk;go_wp2
    go_ret3
    exact GO.out 1 HF.out (by decide) _ O2.out
  by_cases ho1:order<0
  · have HF:=ZZ (show E=1 by rw[HE.out];unfold ZaZ;rw[if_pos hgk,if_pos (.inr (.inr (by omega)))])
    clear d0 d1 hgk;go_wp2
    go_ret3
    exact GO.out 1 HF.out (by decide) _ O2.out
  by_cases ho2:2<order
  · have HF:=ZZ (show E=1 by rw[HE.out];unfold ZaZ;rw[if_pos hgk,if_pos (.inr (.inr (by omega)))])
    clear d0 d1 hgk;go_wp2
    go_ret3
    exact GO.out 1 HF.out (by decide) _ O2.out
  have HF:=ZZ (show E=0 by rw[HE.out];unfold ZaZ;rw[if_pos hgk,if_neg (by omega)]);have HC:=ZZ (Zul g _ _ hs B w2 lim order block (HG.out.only O2.out HBW.out) (Yi HBW.out O2.out.size) hgk HBD.out.nd (by omega) hblkm);clear hgk
  go_wp2_with fail
  go_at_call 123;refine HC.out.mono ?_;rintro e w3 ⟨b,base,v,rfl,P3,hb3,o3⟩;have HP3:=ZZ P3;have HO3:=ZZ (O2.out.trans o3);obtain⟨vs,vb,vl,vg,vp⟩:=v;obtain⟨A4,k4,e4, -, -, -⟩:=Pm.sl P3.sm;obtain⟨A7,k7,e7, -, -, -⟩:=Pm.sl P3.lg;simp only at e4 e7;subst e4 e7
  have hr4:(ZbZ g lim order block).small=ZF g lim order block:=by unfold ZF;rw[if_pos (HE.out.symm.trans HF.out)]
  have hr7:(ZbZ g lim order block).large=ZJ g lim order block:=by unfold ZJ;rw[if_pos (HE.out.symm.trans HF.out)]
  have c4:w3.cell? ⟨b,4,none⟩=some (.slice A4 (ZF g lim order block).length k4):=by rw[← hr4];exact P3.box.cell 4
  have c7:w3.cell? ⟨b,7,none⟩=some (.slice A7 (ZJ g lim order block).length k7):=by rw[← hr7];exact P3.box.cell 7
  have h4:=ZE P3.sm (base':=W.heap.size) fun k hk=>Yi (Yi O2.out.size hb3) (Zj P3.sm hk).1;have h7:=ZE P3.lg (base':=W.heap.size) fun k hk=>Yi (Yi O2.out.size hb3) (Zj P3.lg hk).1;rw[hr4] at h4;rw[hr7] at h7;have H4:=ZZ (OwR.of_own h4);have H7:=ZZ (OwR.of_own h7);clear h4 h7 hr4 hr7 P3 o3 hb3 d0 d1;go_wp2
  go_quiet (fail)
  go_wp2
  go_ret3
  refine⟨_,_,by rw[HF.out];rfl,H4.out.only ((Only.refl nob w3).drewN _) fun _ _ h=>h,H7.out.only ((Only.refl nob w3).drewN _) fun _ _ h=>h,HO3.out.trans ((Only.refl nob w3).drewN _)⟩
end Go.Proofs.YteieocddfnlmdaaGreatDoor
