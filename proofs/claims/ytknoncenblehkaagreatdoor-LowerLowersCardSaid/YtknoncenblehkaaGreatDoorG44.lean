/- Package lower: a node's words, written where it stands. -/
import Derived.Test.YtknoncenblehkaaGreatDoorG39
import Derived.Test.YtknoncenblehkaaGreatDoorG38
set_option maxRecDepth 100000
set_option maxHeartbeats 32000000
set_option linter.unusedSimpArgs false
set_option linter.unusedVariables false
namespace Go.Proofs.YtknoncenblehkaaGreatDoor
open Go.RowKit Go.Lib
theorem Ze5 (b p m c l:Nat):ZbU (some ⟨b,p,none⟩) l m c 1=.slice (some ⟨b,if c=l then p else p+l,none⟩) (m - l) (c - l):=by
 unfold ZbU
 split
 · rfl
 · rw[Nat.mul_one];simp[Addr.add]
theorem ZgJ {α:Type} {L vs:List α} {o n:Nat} (h:o+vs.length≤n) (hn:n≤L.length):(splice L o vs).take n=splice (L.take n) o vs:=by
 unfold splice
 have h1:(L.take o).length=o:=by rw[List.length_take];omega
 rw[List.take_append,h1,List.take_append,List.take_take,List.take_take,List.drop_take,show min n o=o by omega,List.take_of_length_le (l:=vs) (by omega),show min o n=o by omega,show n - o - vs.length=n - (o+vs.length) by omega]
theorem Zib {L R:List Nat} {p q:Nat} {r:List Nat} (h:p+R.length≤L.length) (hr:q+r.length=R.length) (hd:R.drop q=r):splice (u64s (ZaS L p (R.take q))) (p+q) (u64s r)=u64s (ZaS L p R):=by
 have hq:(R.take q).length=q:=by rw[List.length_take];omega
 have hl:=ZaM (l:=L) (p:=p) (r:=R.take q) (by omega)
 have hRe:R=R.take q++r:=by rw[← hd,List.take_append_drop]
 have e:splice (u64s (ZaS L p (R.take q))) (p+q) (u64s r)=u64s (splice (ZaS L p (R.take q)) (p+q) r):=by rw[Zdw]
 rw[e]
 congr 1
 refine ZmC ?_ fun x hx=>?_
 · rw[ZaB _ _ _ (by omega),hl,ZaM h]
 · have hx':x<L.length:=by rw[ZaB _ _ _ (by omega),hl] at hx;exact hx
   rw[ZcE h]
   have g: ∀k,wd (ZaS L p (R.take q)) k=if p≤k∧k<p+q then wd R (k - p) else wd L k:=fun k=>by
    rw[ZcE (by omega),hq]
    split
    · unfold wd
      rw[Ym,Ym,List.getElem?_take,if_pos (by omega)]
    · rfl
   unfold splice
   have ht:((ZaS L p (R.take q)).take (p+q)).length=p+q:=by rw[List.length_take];omega
   by_cases h1:x<p+q
   · have e1:wd ((ZaS L p (R.take q)).take (p+q)++(r++(ZaS L p (R.take q)).drop (p+q+r.length))) x=wd (ZaS L p (R.take q)) x:=by
      unfold wd;rw[Ym,Ym,List.getElem?_append_left (by omega),List.getElem?_take,if_pos h1]
     first|rw[e1]|(rw[← List.append_assoc] at e1;rw[e1])
     rw[g];by_cases h2:p≤x
     · rw[if_pos ⟨h2,h1⟩,if_pos ⟨h2,by omega⟩]
     · rw[if_neg (by omega),if_neg (by omega)]
   · by_cases h2:x<p+q+r.length
     · have e1:wd ((ZaS L p (R.take q)).take (p+q)++(r++(ZaS L p (R.take q)).drop (p+q+r.length))) x=wd r (x - (p+q)):=by
        unfold wd;rw[Ym,Ym,List.getElem?_append_right (by omega),ht,List.getElem?_append_left (by omega)]
       first|rw[e1]|(rw[← List.append_assoc] at e1;rw[e1])
       rw[if_pos ⟨by omega,by omega⟩, ← hd];unfold wd;rw[Ym,Ym,List.getElem?_drop,show q+(x - (p+q))=x - p by omega]
     · have e1:wd ((ZaS L p (R.take q)).take (p+q)++(r++(ZaS L p (R.take q)).drop (p+q+r.length))) x=wd (ZaS L p (R.take q)) x:=by
        unfold wd;rw[Ym,Ym,List.getElem?_append_right (by omega),ht,List.getElem?_append_right (by omega),List.getElem?_drop,show p+q+r.length+(x - (p+q) - r.length)=x by omega]
       first|rw[e1]|(rw[← List.append_assoc] at e1;rw[e1])
       rw[g,if_neg (by omega),if_neg (by omega)]
theorem ZgZ {w:World} {base b n cap:Nat} {xs:List Value} (h:w.ownsRow base 57 1 (.slice (some ⟨b,0,none⟩) n cap) n xs): ∃cur:Array Value,Blk w b 57 cur∧base≤b∧xs.length=n∧n≤cap∧cap≤maxLen∧cur.size=cap∧cur.toList.take n=xs:=by
 have h0:=h.1
 rcases h.2 with⟨e, -⟩|⟨g,cap',cur,e,hb,hg,h1,h2,h3,h4⟩
 · cases e
 · have e':=e
   simp only[Value.slice.injEq,Option.some.injEq,Addr.mk.injEq,and_true,true_and] at e';obtain⟨rfl,rfl⟩:=e';rw[Nat.mul_one] at h3 h4 h0;exact⟨cur,hg,hb,h0,h1,h2,h3,h4⟩
theorem Zgy {w:World} {base b n cap:Nat} {cur:Array Value} {xs:List Value} (h:Blk w b 57 cur) (hb:base≤b) (hx:xs.length=n) (hn:n≤cap) (hc:cap≤maxLen) (hs:cur.size=cap) (ht:cur.toList.take n=xs):w.ownsRow base 57 1 (.slice (some ⟨b,0,none⟩) n cap) n xs:=
 ⟨by omega,.inr ⟨b,cap,_,rfl,hb,h,hn,hc,by rw[hs,Nat.mul_one],by rw[Nat.mul_one];exact ht⟩⟩
theorem Sl.words_at {w:World} {B:Nat} {b o c:Nat} {l:List Nat} (h:Sl w B 1 (.slice (some ⟨b,o,none⟩) l.length c) l.length (u64s l)) (hn:0<l.length): ∀j v,(u64s l)[j]? =some v→w.cell? ⟨b,o+j,none⟩=some v:=by
 obtain⟨A,c',e,h1,h2,h3,h4⟩:=h;obtain⟨g,f,rfl,hg,hc⟩:=h4 hn;simp only[Value.slice.injEq,Option.some.injEq,Addr.mk.injEq,and_true,true_and] at e;obtain⟨⟨rfl,rfl⟩, -⟩:=e;exact hc
theorem Zoc (pl:List Int) (d:Nd) (fv rv pv:Value) (L:List Nat) (p n cap b base B:Nat) (w:World) (hL:L.length=n) (hn:n≤1000000) (hnc:n≤cap) (hfit:p+(rowW pl d).length≤n) (hmay:hmay d.kd d.fs.length d.rs.length 0=true) (hlead: ∀v∈d.fs,v.1=2→0≤v.2∧v.2<(pl.length:Int)) (hown:w.ownsRow base 57 1 (.slice (some ⟨b,0,none⟩) n cap) n (u64s L)) (hB:B≤b) (hnd:NdR w B d (fv,rv)) (hpl:Sl w B 1 pv pl.length (i64s pl)) (hpar:Par w) (hpb:B≤w.heap.size):
 Calls Tryz.prog 21 #[.slice (some ⟨b,p,none⟩) (n - p) (cap - p),.agg #[.int .i64 d.kd,fv,rv],pv] w fun e w'=>e=.returned (.tuple #[])∧w'.ownsRow base 57 1 (.slice (some ⟨b,0,none⟩) n cap) n (u64s (ZaS L p (rowW pl d)))∧Only (isb b) w w':=by
 obtain⟨i0,hi0,hz0,hz1,hz2⟩:=info_parts ZcC;obtain⟨Af,cf,hfv,haf,hcf⟩:=hnd.fields.form;obtain⟨Aq,cq,hrv,haq,hcq⟩:=hnd.raws.form;obtain⟨Ap,cp,hpv,hacp,hcp⟩:=hpl.form;simp only at hfv hrv;subst hfv hrv hpv;unfold maxLen at hcf hcq hcp;have HND:=ZZ hnd;have HPL:=ZZ hpl;have HLD:=ZZ hlead;have hbl:=(Zr hown (k:=b) rfl).2;have hrl:=Zck pl d
 obtain⟨R,hR⟩: ∃R,R=rowW pl d:=⟨_,rfl⟩
 rw[← hR] at hfit hrl ⊢;have HLL:=ZZ hL;have HRL:=ZZ hrl;have HR0:=ZZ (show R[0]? =some (hdW d) by rw[hR];rfl)
 have HRF:=ZZ (show ∀(j:Nat) v,d.fs[j]? =some v→R[1+j]? =some (ZbK pl v) from fun j v hj=>by
  have hj2:=(Yj.1 hj).1;rw[hR];unfold rowW;rw[show 1+j=j+1 by omega,List.getElem?_cons_succ,List.getElem?_append_left (by rw[List.length_map];exact hj2),List.getElem?_map,hj]
  rfl)
 have HRD:=ZZ (show R.drop (1+d.fs.length)=d.rs by
  rw[hR];unfold rowW
  rw[show 1+d.fs.length=d.fs.length+1 by omega,List.drop_succ_cons,List.drop_left' (by rw[List.length_map])])
 obtain⟨X,hX,HBX⟩:=ZaA w d.kd (.slice Af d.fs.length cf) (.slice Aq d.rs.length cq);have HX:=ZZ hX
 obtain⟨q,hq⟩: ∃p,p=w.heap.size:=⟨_,rfl⟩
 have HQ:=ZZ hq;have BX:=ZZ HBX.out.2.1;rw[← hq] at BX;have OX:=ZZ HBX.out.1
 have hbq:b<q:=by rw[hq];exact hbl
 have HEN:=ZZ (Zk9 d.kd d.fs.length d.rs.length false 0 X (hpar.old OX.out));rw[Zj6 hmay,Zfg hmay] at HEN
 have hf4:d.fs.length≤4096:=by have:=ZF.1 hmay;omega
 have hr4:d.rs.length≤4096:=by have:=ZF.1 hmay;omega
 have HOWN:=ZZ (Zb hown OX.out fun _ _=>id)
 obtain⟨kd,hkd⟩: ∃z,z=d.kd:=⟨_,rfl⟩
 rw[← hkd] at HX BX HEN
 obtain⟨hd',hhd⟩: ∃z,z=hdW d:=⟨_,rfl⟩
 rw[← hhd] at HEN HR0
 obtain⟨F,hF⟩: ∃z,z=d.fs.length:=⟨_,rfl⟩
 obtain⟨Q,hQ⟩: ∃z,z=d.rs.length:=⟨_,rfl⟩
 have HFQ:=ZZ (And.intro hF hQ);rw[← hF] at HX BX HEN hf4 haf hrl HRD;rw[← hQ] at HX BX HEN hr4 haq hrl;rw[← hkd, ← hF, ← hQ]
 obtain⟨m,hm⟩: ∃m,m=n - p:=⟨_,rfl⟩
 have HM:=ZZ (show p+m=n∧1+F+Q≤m by omega)
 have hm0:0<m:=by omega
 obtain⟨mc,hmc⟩: ∃m,m=cap - p:=⟨_,rfl⟩
 have hmm:m≤mc:=by omega
 have HCM:=ZZ (ZgZ hown).choose_spec.2.2.2.2.1;rw[← hm, ← hmc]
 obtain⟨fo,hfo⟩: ∃fo,fo=if mc=1 then p else p+1:=⟨_,rfl⟩
 have HFO:=ZZ (show 0<F→fo=p+1 from fun h=>by rw[hfo,if_neg (by omega)])
 obtain⟨ro,hro⟩: ∃ro,ro=if mc - 1=F then fo else fo+F:=⟨_,rfl⟩
 have HRO:=ZZ (show 0<Q→ro=p+1+F from fun h=>by rw[hro,if_neg (by omega),hfo,if_neg (by omega)])
 have hcut1: ∀w,(Instr.sliceAt 30 (.slice (some ⟨b,p,none⟩) m mc) (some (.int .i64 1)) none none).run Tryz.prog w=.ok (.slice (some ⟨b,fo,none⟩) (m - 1) (mc - 1)) w:=fun w=>by
  have h1:=Zap Tryz.underlying30 hi0 (some ⟨b,p,none⟩) m mc 1 hm0 w;rw[hz1,Ze5, ← hfo] at h1;exact h1
 have hcut2: ∀w,(Instr.sliceAt 30 (.slice (some ⟨b,fo,none⟩) (m - 1) (mc - 1)) (some (.int .i64 ((F:Nat):Int))) none none).run Tryz.prog w=.ok (.slice (some ⟨b,ro,none⟩) (m - 1 - F) (mc - 1 - F)) w:=fun w=>by
  have h1:=Zap Tryz.underlying30 hi0 (some ⟨b,fo,none⟩) (m - 1) (mc - 1) F (by omega) w;rw[hz1,Ze5, ← hro] at h1;exact h1
 obtain⟨m1,hm1⟩: ∃m1,m1=m - 1:=⟨_,rfl⟩
 obtain⟨k1,hk1⟩: ∃m1,m1=mc - 1:=⟨_,rfl⟩
 rw[← hm1, ← hk1] at hcut1 hcut2
 obtain⟨m2,hm2⟩: ∃m2,m2=m1 - F:=⟨_,rfl⟩
 obtain⟨k2,hk2⟩: ∃m2,m2=k1 - F:=⟨_,rfl⟩
 rw[← hm2, ← hk2] at hcut2;have HM2:=ZZ (show m1+1=m∧m2+F=m1 by omega)
 have hfm:F≤m1:=by omega
 have hpn:p<n:=by omega
 clear hX hq hR hkd hhd hF hQ hm hmc hfo hro hm1 hm2 hk1 hk2 hnd hpl hlead hown hL hrl hfit;have x0:X.cell? ⟨q,0,none⟩=some (.int .i64 kd):=BX.out.cell 0;have x1:X.cell? ⟨q,1,none⟩=some (.slice Af F cf):=BX.out.cell 1;have x2:X.cell? ⟨q,2,none⟩=some (.slice Aq Q cq):=BX.out.cell 2
 go_enter Tryz.func21,Tryz.ntmps21
 go_upto_region 1 with fail
 rw[HX.out, ← HQ.out]
 go_wp2_with fail
 go_at_call 57;refine HEN.out.mono ?_;rintro e X1 ⟨rfl,o1⟩;have O1:=ZZ o1;have HRW1:=ZZ (Zb HOWN.out o1 fun _ _=>id)
 obtain⟨s0,hs0⟩: ∃z,L[p]? =some z:=⟨_,Ya (by rw[HLL.out];exact hpn)⟩
 have t0:X1.cell? ⟨b,p,none⟩=some (.int .u64 (s0:Nat)):=(HRW1.out.cellAt p (by omega)).trans (by unfold u64s;rw[List.getElem?_map,hs0];rfl);obtain⟨cs,hblk⟩:=ZaZ HRW1.out (k:=b) rfl;have f0:=hblk.free p
 obtain⟨X2,hX2,R2,o2⟩: ∃X2,X1.setCell ⟨b,p,none⟩ (.int .u64 (hd':Nat))=X2∧Hid (X2.ownsRow base 57 1 (.slice (some ⟨b,0,none⟩) n cap) n (u64s (ZaS L p (R.take 1))))∧Only (isb b) X1 X2:=by
  refine⟨_,rfl,ZZ ?_,Zc _ _ _ _⟩;have h1:=Zan HRW1.out p (by omega) (.int .u64 (hd':Nat));rw[Za1] at h1;have h2:=Zbz (l:=L) (p:=p) HR0.out (by rw[HLL.out,HRL.out];have:=HM.out;have:=HFQ.out;omega);rw[List.take_zero,ZhG,Nat.add_zero] at h2
  rwa [h2] at h1
 have HX2:=ZZ hX2;have O2:=ZZ (show Only (isb b) X X2 from((Only.refl (isb b) X).andThen o1 fun _ _ h=>h.elim).andThen o2 fun _ _ h=>h);clear hX2 hs0 hblk o1 o2 x0 x1 x2
 have HKX:=ZZ (show ∀wx,Only (isb b) X wx→Only (isb b) w wx∧Below B w wx∧Blk wx q 56 #[.int .i64 kd,.slice Af F cf,.slice Aq Q cq] from fun wx o=>by
  have a2:Only (isb b) w wx:=(OX.out.mono fun _ _ h=>h.elim).trans o
  exact⟨a2,a2.below hpb fun k e=>by unfold isb at e;omega,BX.out.keep o fun e=>by unfold isb at e;omega⟩)
 clear HRW1 HEN HR0
 go_upto_region 4 with fail
 rw[HX2.out];clear t0 f0;obtain⟨-, -,a4⟩:=HKX.out _ O2.out;have x1:X2.cell? ⟨q,1,none⟩=some (.slice Af F cf):=a4.cell 1;have x2:X2.cell? ⟨q,2,none⟩=some (.slice Aq Q cq):=a4.cell 2;clear a4
 go_wp2_with fail
 clear x1 x2
 go_loopw [35] (fun vj wx=> ∃j:Nat,j≤F∧vj=.int .i64 j∧Hid (wx.ownsRow base 57 1 (.slice (some ⟨b,0,none⟩) n cap) n (u64s (ZaS L p (R.take (1+j)))))∧Hid (Only (isb b) X wx)) (fun vj _=>F - (RowKit.intOf vj).toNat)
 case atStart=>exact⟨0,Yt _,rfl,R2,O2⟩
 case round=>
 obtain⟨j,hj,rfl,HRJ,HOJ⟩:=hrel;obtain⟨a1,a3,a4⟩:=HKX.out _ HOJ.out;by_cases hjl:j<F
 case pos=>
  obtain⟨v,hv⟩: ∃v,d.fs[j]? =some v:=⟨_,Ya (by have:=HFQ.out.1;omega)⟩
  obtain⟨bf,of_,hAf,hbfl,v0,v1⟩:=Zy HND.out.fields a3 hv;subst hAf;have HWD:=ZZ (fun (W:World) (o:Only nob wr W)=>ZmO pl v (.slice Ap pl.length cp) B W (HPL.out.below (a3.trans (o.below (Yh hpb a1.size) fun _ h=>h.elim))) (Yh hpb (Yh a1.size o.size)) (HLD.out v (Yn hv)));have HRX:=ZZ (HRF.out j v hv)
  have hF0:0<F:=by omega
  obtain rfl:=HFO.out hF0
  obtain⟨y,hy⟩: ∃y,y=ZbK pl v:=⟨_,rfl⟩
  rw[← hy] at HWD HRX;obtain⟨Y0,hY0,HBY⟩:=ZbA wr v.1 v.2;have HY0:=ZZ hY0
  obtain⟨vb,hvb⟩: ∃z,z=wr.heap.size:=⟨_,rfl⟩
  have HVB:=ZZ hvb;have BV:=ZZ HBY.out.2;rw[← hvb] at BV;have OV:=ZZ HBY.out.1;have HWD:=ZZ (HWD.out Y0 OV.out);clear hy hv hY0 hvb a1 a3 a4
  go_upto_region 7 with fail
  rw[HY0.out, ← HVB.out];clear v0 v1;have v0:Y0.cell? ⟨vb,0,none⟩=some (.int .i64 v.1):=BV.out.cell 0;have v1:Y0.cell? ⟨vb,1,none⟩=some (.int .i64 v.2):=BV.out.cell 1
  have hjm:j<m1:=by omega
  go_wp2_with fail
  go_at_call 22;refine HWD.out.mono ?_;rintro e Y1 ⟨rfl,o1⟩;have HR1:=ZZ (Zb HRJ.out (OV.out.trans o1) fun _ _=>id);have hlen:=HR1.out.1;rw[ZV] at hlen
  obtain⟨s0,hs0⟩: ∃z,(ZaS L p (R.take (1+j)))[p+1+j]? =some z:=⟨_,Ya (by have:=HM.out;have:=HM2.out;omega)⟩
  have t0:Y1.cell? ⟨b,p+1+j,none⟩=some (.int .u64 (s0:Nat)):=(HR1.out.cellAt (p+1+j) (by have:=HM.out;have:=HM2.out;omega)).trans (by unfold u64s;rw[List.getElem?_map,hs0];rfl);obtain⟨cs,hblk⟩:=ZaZ HR1.out (k:=b) rfl;have f0:=hblk.free (p+1+j)
  obtain⟨Y2,hY2,R3,O3⟩: ∃X2,Y1.setCell ⟨b,p+1+j,none⟩ (.int .u64 (y:Nat))=X2∧Hid (X2.ownsRow base 57 1 (.slice (some ⟨b,0,none⟩) n cap) n (u64s (ZaS L p (R.take (1+(j+1))))))∧Hid (Only (isb b) X X2):=by
   refine⟨_,rfl,ZZ ?_,ZZ ((HOJ.out.andThen (OV.out.trans o1) fun _ _ h=>h.elim).andThen (Zc _ _ _ _) fun _ _ h=>h)⟩;have h1:=Zan HR1.out (p+1+j) (by have:=HM.out;have:=HM2.out;omega) (.int .u64 (y:Nat));rw[Za1] at h1;have h2:=Zbz (l:=L) (p:=p) HRX.out (by rw[HLL.out,HRL.out];have:=HM.out;have:=HFQ.out;omega);rw[show p+(1+j)=p+1+j by omega] at h2
   rwa [h2] at h1
  have HY2:=ZZ hY2;clear hY2 hs0 hblk o1 v0 v1 hlen
  go_upto_region 8 with fail
  rw[HY2.out];clear t0 f0;go_wp2
  go_roundw
  case rel=>exact⟨j+1,by omega,by go_num,R3,O3⟩
  case measure=>simp[RowKit.intOf];omega
 case neg=>
 obtain rfl:j=F:=by omega
 have x2:wr.cell? ⟨q,2,none⟩=some (.slice Aq Q cq):=a4.cell 2;by_cases hQ0:Q=0
 case pos=>
  subst hQ0
  have HRE:=ZZ (show wr.ownsRow base 57 1 (.slice (some ⟨b,0,none⟩) n cap) n (u64s (ZaS L p R)) by
   have h1:=HRJ.out
   rwa [List.take_of_length_le (by rw[HRL.out];have:=HFQ.out;omega)] at h1)
  go_wp2_with (with_reducible refine Go.wpList_copy_nothing (o:=⟨some 50,_,_,_,_,_⟩) rfl (.tmp 47) (.tmp 49) _ _ rfl 57 Tryz.underlying30 Zhh (some ⟨b,ro,none⟩) Aq m2 k2 0 cq rfl rfl (Nat.zero_min _) ?c0)
  case c0=>
  clear x2;go_wp2
  (try simp only[Exit.inBlock,Exit.then])
  first|refine bodyPost_ret (results_none rfl _ _ _) rfl ?_|refine bodyPost_end (results_none rfl _ _ _) rfl ?_
  exact⟨rfl,HRE.out,(OX.out.mono fun _ _ h=>h.elim).trans HOJ.out⟩
 case neg=>
 have hro:=HRO.out (by omega);subst hro
 obtain⟨y,hy⟩: ∃y,d.rs[0]? =some y:=⟨_,Ya (by have:=HFQ.out.2;omega)⟩
 obtain⟨bf,of_,hAf,hbf, -⟩:=Zdv HND.out.raws a3 hy;subst hAf;obtain⟨cur,hblk,hbb,hln, -,hcm,hcs,hct⟩:=ZgZ HRJ.out;have hsl:=HND.out.raws.below a3;simp only at hsl;rw[← HFQ.out.2] at hsl;have hsrc:=(show Sl wr B 1 (.slice (some ⟨bf,of_,none⟩) d.rs.length cq) d.rs.length (u64s d.rs) from by rw[← HFQ.out.2];exact hsl).words_at (by have:=HFQ.out.2;omega);have hcp:=Zfv (P:=Tryz.prog) (w:=wr) 30 30 3 57 i0 1 Q Tryz.underlying30 hi0 hz1 b (p+1+j) m2 k2 bf of_ Q cq _ 57 hblk (u64s d.rs) (by have:=HM.out;have:=HM2.out;exact Nat.min_eq_left (by omega)) (by rw[ZV,HFQ.out.2,Nat.mul_one]) (by have:=HM.out;have:=HM2.out;have:=HFQ.out.2;rw[ZV,hcs];omega) hsrc (ZhM _)
 obtain⟨Y,hY,OY,BY⟩: ∃Y,wr.setCells b (p+1+j) (u64s d.rs)=Y∧Only (isb b) wr Y∧Blk Y b 57 (splice cur.toList (p+1+j) (u64s d.rs)).toArray:=by
  refine⟨_,rfl,Zax b _ _ wr,?_⟩;have h1:=Blk.setCells (u64s d.rs) (p+1+j) hblk (by have:=HM.out;have:=HM2.out;have:=HFQ.out.2;rw[ZV,hcs];omega);simpa using h1
 rw[hY] at hcp;have HCP:=ZZ hcp
 have HRE:=ZZ (show Y.ownsRow base 57 1 (.slice (some ⟨b,0,none⟩) n cap) n (u64s (ZaS L p R)) by
  have h1:=Zib (L:=L) (R:=R) (p:=p) (q:=1+j) (r:=d.rs) (by rw[HRL.out,HLL.out];have:=HM.out;have:=HFQ.out;omega) (by rw[HRL.out];have:=HFQ.out;omega) HRD.out;rw[← Nat.add_assoc] at h1;rw[← hct] at h1;rw[← ZgJ (by have:=HM.out;have:=HM2.out;have:=HFQ.out.2;rw[ZV];omega) (by rw[Array.length_toList,hcs];exact hnc)] at h1;refine Zgy BY hbb (by rw[ZV,ZaM (by rw[HRL.out,HLL.out];have:=HM.out;have:=HFQ.out;omega),HLL.out]) hnc hcm ?_ h1
  rw[List.size_toArray,ZaB _ _ _ (by have:=HM.out;have:=HM2.out;have:=HFQ.out.2;rw[ZV,Array.length_toList,hcs];omega),Array.length_toList,hcs])
 have OE:=ZZ (HOJ.out.trans OY);clear hcp hY OY BY hsrc hsl hblk hy hct hcs
 go_wp2_with (with_reducible refine Lib.wpList_copy_run (o:=⟨some 50,_,_,_,_,_⟩) _ rfl (.tmp 47) (.tmp 49) 30 30 rfl (.slice (some ⟨b,p+1+j,none⟩) m2 k2) (.slice (some ⟨bf,of_,none⟩) Q cq) rfl rfl HCP.out ?_)
 clear x2;go_wp2
 (try simp only[Exit.inBlock,Exit.then])
 first|refine bodyPost_ret (results_none rfl _ _ _) rfl ?_|refine bodyPost_end (results_none rfl _ _ _) rfl ?_
 exact⟨rfl,HRE.out,(OX.out.mono fun _ _ h=>h.elim).trans OE.out⟩
end Go.Proofs.YtknoncenblehkaaGreatDoor
