/- The document's own Lower: the heap of a graph. -/
import Derived.Test.YtknoncenblehkaaGreatDoorG43
import Derived.Test.YtknoncenblehkaaGreatDoorG28
import Derived.Test.YtknoncenblehkaaGreatDoorG45
set_option maxRecDepth 100000
set_option maxHeartbeats 32000000
set_option linter.unusedSimpArgs false
set_option linter.unusedVariables false
namespace Go.Proofs.YtknoncenblehkaaGreatDoor
open Go.RowKit Go.Lib
theorem ZlY:Zpu 9:=by
 intro c sec g vn vr hs B w h;obtain⟨A,cn,rfl,hac,hcm⟩:=h.rd.nodes.form;obtain⟨Ar,cr,rfl,hacr,hcmr⟩:=h.rd.roots.form;unfold maxLen at hcm hcmr;obtain⟨W,hW,HB⟩:=Zjc w c (.slice A g.nd.length cn) (.slice Ar g.rt.length cr);have HW:=ZZ hW
 obtain⟨p,hp⟩: ∃p,p=w.heap.size:=⟨_,rfl⟩
 have HP:=ZZ hp;rw[← hp] at HB;have HI:=ZZ h;have HST:=ZZ (ZmH c sec g _ _ hs B W (h.keep HB.out.1));obtain⟨c0,c1,c2,c3⟩:=HB.out.2.1;have g0:W.cell? ⟨p+1,0,none⟩=some (.slice A g.nd.length cn):=HB.out.2.2.1.cell 0;have g1:W.cell? ⟨p+1,1,none⟩=some (.slice Ar g.rt.length cr):=HB.out.2.2.1.cell 1;clear hW hp h
 go_enter Tryz.func9,Tryz.ntmps9
 go_upto_region 1 with fail
 rw[HW.out, ← HP.out]
 go_wp2_with fail
 go_at_call 11;refine HST.out.mono ?_;rintro e w1 ⟨s,pv,vt,vf,hs',rfl,hpv,ht,hf,o⟩;have O1:=ZZ (HB.out.1.trans o);clear c0 c1 c2 c3 g0 g1;by_cases he:loE c sec g=0
 case neg=>
  have HE:=ZZ he;obtain⟨e1,e2⟩:=ZcI he;rw[e1] at hs';subst hs'
  have hpv:Sl w1 w1.heap.size 1 pv 0 (i64s []):=by rw[e2] at hpv;exact hpv
  obtain⟨W2,hW2,HB2⟩:=ZeZ w1 #[pv,.int .i64 0,vt,vf];obtain⟨Pv,kv,rfl, -, -⟩:=hpv.form;obtain⟨At,ct,rfl, -, -⟩:=ht.form;obtain⟨Av,cv,rfl, -, -⟩:=hf.form;have HW2:=ZZ hW2;have R2:=ZZ (HB.out.2.2.2.keep (o.trans HB2.out.1) id);have O2:=ZZ (O1.out.trans HB2.out.1)
  obtain⟨q,hq⟩: ∃q,q=loE c sec g:=⟨_,rfl⟩
  have HQ:=ZZ hq;rw[← hq] at he ⊢
  have hqb:(q !=0)=true:=by simpa using he
  clear hW2 he hq hpv ht hf o
  go_upto_region 2 with fail
  rw[show noS.top=0 from rfl];rw[HW2.out];obtain⟨s0,s1,s2,s3,s4,s5,s6,s7,s8,s9⟩:=Zg R2.out;obtain⟨f0,f1,f2,f3,f4,f5,f6,f7,f8,f9⟩:=Zv R2.out
  go_wp2_with fail
  clear s0 s1 s2 s3 s4 s5 s6 s7 s8 s9 f0 f1 f2 f3 f4 f5 f6 f7 f8 f9;obtain⟨W9,hW9,o9, -,B9⟩:=Z6 O2.out (by have:=HP.out;omega) R2.out (.int .i64 0) (.int .i64 0) (.int .i64 0) (.int .i64 0) (.bool false) (.slice none 0 0) (.int .i64 0) (.slice none 0 0) (.slice none 0 0) (.slice none 0 0)
  with_reducible rw[hW9]
  obtain⟨h0,h1,h2,h3,h4,h5,h6,h7,h8,h9⟩:=Zg B9
  (try simp only[Exit.inBlock,Exit.then])
  refine bodyPost_ret (v:=.tuple #[.agg #[.int .i64 0,.int .i64 0,.int .i64 0,.int .i64 0,.bool false,.slice none 0 0,.int .i64 0,.slice none 0 0,.slice none 0 0,.slice none 0 0],.int .i64 q]) (by simp[results,Tryz.results9,go_sem,h0,h1,h2,h3,h4,h5,h6,h7,h8,h9]) rfl ?_;refine⟨noS,.slice none 0 0,.slice none 0 0,.slice none 0 0,.slice none 0 0,(ZcI HE.out).1.symm,by rw[← HQ.out];rfl,⟨Sl.nil_,Sl.nil_,Sl.nil_,Sl.nil_⟩,o9⟩
 case pos=>
 have HE:=ZZ he;have HOK:=ZZ (Zb4.1 he);obtain⟨e1,e2⟩:=ZaO he;rw[e1] at hs';rw[e2] at hpv;subst hs';obtain⟨At,ct,rfl, -, -⟩:=ht.form;obtain⟨Av,cv,rfl, -, -⟩:=hf.form;obtain⟨Pv,kv,rfl, -, -⟩:=hpv.form
 obtain⟨nt,hnt⟩: ∃n,n=(ZaK c sec g).tb.length:=⟨_,rfl⟩
 obtain⟨nf,hnf⟩: ∃n,n=(ZaK c sec g).fr.length:=⟨_,rfl⟩
 have HNT:=ZZ (And.intro hnt hnf);rw[← hnt] at ht;rw[← hnf] at hf
 obtain⟨N,hN⟩: ∃N,N=g.nd.length:=⟨_,rfl⟩
 have HN:=ZZ hN
 have hplen:(loPl c sec g).length=N:=by rw[hN];exact Zbo ..
 have HPN:=ZZ hplen
 obtain⟨T,hT⟩: ∃T,T=(ZaK c sec g).top:=⟨_,rfl⟩
 have HT:=ZZ hT
 obtain⟨M,hM⟩: ∃M,M=g.rt.length:=⟨_,rfl⟩
 have HM:=ZZ hM;rw[← hnt, ← hnf, ← hN,hplen, ← hT, ← hM,he];obtain⟨W2,hW2,HB2⟩:=ZeZ w1 #[.slice Pv N kv,.int .i64 T,.slice At nt ct,.slice Av nf cv];have HW2:=ZZ hW2;have N2:=ZZ (o.trans HB2.out.1);have O2:=ZZ (HB.out.1.trans N2.out);have X2:=ZZ (HB.out.2.1.keep N2.out);have G2:=ZZ (HB.out.2.2.1.keep N2.out id);have R2:=ZZ (HB.out.2.2.2.keep N2.out id);have TV2:=ZZ ((ht.below HB2.out.1.whole).more HB2.out.1.size);have FV2:=ZZ ((hf.below HB2.out.1.whole).more HB2.out.1.size);have PV2:=ZZ ((hpv.below HB2.out.1.whole).more HB2.out.1.size)
 obtain⟨rb,hrb⟩: ∃b,b=w1.heap.size:=⟨_,rfl⟩
 have HRB:=ZZ hrb;have RB2:=ZZ HB2.out.2;rw[← hrb] at RB2
 have hprb:p+1+1<rb:=by rw[hrb];exact Yv HB.out.2.2.2.lt o.size
 have HNEW:=ZZ (ZnD c W2 HI.out.cfit HOK.out.ok);clear hW2 he hnt hnf ht hf hpv hrb hplen hT o;rw[← hN] at hac;rw[← hM] at hacr;rw[← hN, ← hM] at G2
 have hMc:M≤1000:=by rw[hM];exact HI.out.roots
 clear hN hM
 go_upto_region 2 with fail
 rw[HW2.out, ← HRB.out];obtain⟨c0,c1,c2,c3⟩:=X2.out
 go_wp2_with fail
 go_at_call 23;refine HNEW.out.mono ?_;rintro e w3 ⟨vw,vf,vs,rfl,hrd,hsl,o⟩
 obtain⟨n,hn⟩: ∃n,n=(Zk c).toNat:=⟨_,rfl⟩
 obtain⟨m,hm⟩: ∃n,n=c.slots.toNat:=⟨_,rfl⟩
 have HNM:=ZZ (And.intro hn hm);have hwl:=Za7 HOK.out.ok;have hok':=HOK.out.ok;unfold Cf.ok at hok';rw[← hm] at hsl
 have hnw:(Zmv c).ws.length=n:=by rw[Zjz HOK.out.ok,hn];exact List.length_replicate ..
 obtain⟨Aw,kw,rfl, -, -⟩:=hrd.words.form;obtain⟨Af,kf,rfl, -, -⟩:=hrd.free.form;obtain⟨sb,caps,rfl,hsc,hsm,hsb,hsl'⟩:=ZbL hsl (by omega);rw[hnw]
 obtain⟨nq,hnq⟩: ∃z,z=(Zmv c).fr.length:=⟨_,rfl⟩
 rw[← hnq];obtain⟨W4,hW4,HB4⟩:=ZhL w3 #[.int .i64 c.semi,.int .i64 c.large,.int .i64 c.slots,.int .i64 c.limit,.bool false,.slice Aw n kw,.int .i64 0,.slice none 0 0,.slice Af nq kf,.slice (some ⟨sb,0,none⟩) m caps];have HW4:=ZZ hW4
 obtain⟨q,hq⟩: ∃b,b=w3.heap.size:=⟨_,rfl⟩
 have HQ:=ZZ hq;have N4:=ZZ (o.trans HB4.out.1);have O4:=ZZ (O2.out.trans N4.out);have R4:=ZZ (R2.out.keep N4.out id);have RB4:=ZZ (RB2.out.keep N4.out id);have G4:=ZZ (G2.out.keep N4.out id);have B4:=ZZ HB4.out.2;rw[← hq] at B4;have SR4:=ZZ (Zb hsl HB4.out.1 fun _ _=>id)
 have hn1:n≤98304:=by omega
 have hm1:m≤1024:=by omega
 have hMm:M≤m:=by have:=HOK.out.slots;have:=HM.out;omega
 have hqq:p+1+1<rb∧rb<W2.heap.size∧W2.heap.size≤sb∧sb<q∧W2.heap.size≤q:=⟨hprb,RB2.out.lt,hsb,by rw[hq];exact hsl',by rw[hq];exact o.size⟩
 clear hW4 hq hrd hsl o c0 c1 c2 c3 hn hm hok' hwl hnw hnq
 go_upto_region 5 with fail
 rw[HW4.out, ← HQ.out];have r1:W4.cell? ⟨rb,1,none⟩=some (.int .i64 T):=RB4.out.cell 1;have r2:W4.cell? ⟨rb,2,none⟩=some (.slice At nt ct):=RB4.out.cell 2;have r3:W4.cell? ⟨rb,3,none⟩=some (.slice Av nf cv):=RB4.out.cell 3;have s4:W4.cell? ⟨q,4,none⟩=some (.bool false):=B4.out.cell 4;have s6:W4.cell? ⟨q,6,none⟩=some (.int .i64 0):=B4.out.cell 6;have s7:W4.cell? ⟨q,7,none⟩=some (.slice none 0 0):=B4.out.cell 7;have s8:W4.cell? ⟨q,8,none⟩=some (.slice Af nq kf):=B4.out.cell 8;have f4:=B4.out.free 4;have f6:=B4.out.free 6;have f7:=B4.out.free 7;have f8:=B4.out.free 8
 have hrq:rb≠q:=by omega
 have hqr:q≠rb:=by omega
 go_upto_region 9 with fail
 clear r1 r2 r3 s4 s6 s7 s8 f4 f6 f7 f8
 obtain⟨W5,hW5,O5,B5⟩: ∃W5,((((W4.setCell ⟨q,4,none⟩ (.bool sec)).setCell ⟨q,6,none⟩ (.int .i64 T)).setCell ⟨q,7,none⟩ (.slice At nt ct)).setCell ⟨q,8,none⟩ (.slice Av nf cv))=W5∧Hid (Only (isb q) W4 W5)∧Hid (Blk W5 q 34 #[.int .i64 c.semi,.int .i64 c.large,.int .i64 c.slots,.int .i64 c.limit,.bool sec,.slice Aw n kw,.int .i64 T,.slice At nt ct,.slice Av nf cv,.slice (some ⟨sb,0,none⟩) m caps]):=by
  refine⟨_,rfl,ZZ (((Zc _ q 4 _).trans (Zc _ q 6 _)).trans (Zc _ q 7 _)|>.trans (Zc _ q 8 _)),ZZ ?_⟩;have h1:=(((B4.out.put 4 (.bool sec)).put 6 (.int .i64 T)).put 7 (.slice At nt ct)).put 8 (.slice Av nf cv);simp only[Yb,Yd,Yc] at h1;exact h1
 with_reducible rw[hW5]
 have SR5:=ZZ (Zb SR4.out O5.out fun k e e2=>by unfold isb at e2;have:=Yo e;simp only at this;omega);have O5w:=ZZ (O4.out.andThen O5.out fun i hi e=>by unfold isb at e;have:=HP.out;omega);have G5:=ZZ (G4.out.keep O5.out fun e=>by unfold isb at e;omega);have R5:=ZZ (R4.out.keep O5.out fun e=>by unfold isb at e;omega);have RB5:=ZZ (RB4.out.keep O5.out fun e=>by unfold isb at e;omega);have PV5:=ZZ (PV2.out.below ((N4.out.below (Yi _) fun _ h=>h.elim).trans (O5.out.below N4.out.size fun k e=>by unfold isb at e;omega)));have hs5:W2.heap.size≤W5.heap.size:=Yh N4.out.size O5.out.size;have g0:W5.cell? ⟨p+1,0,none⟩=some (.slice A N cn):=G5.out.cell 0;have g1:W5.cell? ⟨p+1,1,none⟩=some (.slice Ar M cr):=G5.out.cell 1;have hWO:=HOK.out.wrOk;rw[← HNM.out.1] at hWO
 have HWR:=Zlr g (.slice A N cn) (.slice Ar M cr) (.slice Pv N kv) hs (loPl c sec g) n W5.heap.size W5 (by
  have h1:=(HI.out.rd.only O5w.out HI.out.size).more (Yh HI.out.size O5w.out.size);rw[← HN.out, ← HM.out] at h1
  exact h1) (by
  have h1:=PV5.out.more hs5;rw[HPN.out] at h1 ⊢
  exact h1) (Yi _) hn1 hWO
 have HWR:=ZZ HWR;have r0:W5.cell? ⟨rb,0,none⟩=some (.slice Pv N kv):=RB5.out.cell 0;have s5:W5.cell? ⟨q,5,none⟩=some (.slice Aw n kw):=B5.out.cell 5;clear hW5 hWO
 go_wp2_with fail
 go_at_call 24;refine HWR.out.mono ?_;rintro e w6 ⟨v',rfl,hw6,o⟩;obtain⟨bw,capw,rfl,hbc,hbm,hbb,hbl⟩:=ZbL hw6 (by have:=HOK.out.ok;unfold Cf.ok at this;have:=Za7 HOK.out.ok;have:=HNM.out.1;omega);have B6:=ZZ (B5.out.keep o id);have R6:=ZZ (R5.out.keep o id);have RB6:=ZZ (RB5.out.keep o id);have G6:=ZZ (G5.out.keep o id);have S6:=ZZ (Zb SR5.out o fun _ _=>id);have PV6:=ZZ (PV5.out.below (o.below hs5 fun _ h=>h.elim));have O6:=ZZ (O5w.out.trans o);have N6:=ZZ o;have HW6:=ZZ hw6;clear o g0 g1 r0 s5 hw6;have s5:w6.cell? ⟨q,5,none⟩=some (.slice Aw n kw):=B6.out.cell 5;have f5:=B6.out.free 5
 obtain⟨W7,hW7,O7,B7⟩: ∃W5,w6.setCell ⟨q,5,none⟩ (.slice (some ⟨bw,0,none⟩) n capw)=W5∧Hid (Only (isb q) w6 W5)∧Hid (Blk W5 q 34 #[.int .i64 c.semi,.int .i64 c.large,.int .i64 c.slots,.int .i64 c.limit,.bool sec,.slice (some ⟨bw,0,none⟩) n capw,.int .i64 T,.slice At nt ct,.slice Av nf cv,.slice (some ⟨sb,0,none⟩) m caps]):=by
  refine⟨_,rfl,ZZ (Zc _ q 5 _),ZZ ?_⟩;have h1:=B6.out.put 5 (.slice (some ⟨bw,0,none⟩) n capw);simp only[Yb,Yd,Yc] at h1;exact h1
 have HW7:=ZZ hW7;clear hW7
 go_upto_region 10 with fail
 rw[HW7.out];clear s5 f5;have SR7:=ZZ (Zb S6.out O7.out fun k e e2=>by unfold isb at e2;have:=Yo e;simp only at this;omega);have WR7:=ZZ (Zb HW6.out O7.out (Zd HW6.out B6.out (by decide)));have O7w:=ZZ (O6.out.andThen O7.out fun i hi e=>by unfold isb at e;have:=HP.out;omega);have G7:=ZZ (G6.out.keep O7.out fun e=>by unfold isb at e;omega);have R7:=ZZ (R6.out.keep O7.out fun e=>by unfold isb at e;omega);have RB7:=ZZ (RB6.out.keep O7.out fun e=>by unfold isb at e;omega);have hs6:W2.heap.size≤w6.heap.size:=Yh hs5 N6.out.size;have PV7:=ZZ (PV6.out.below (O7.out.below hs6 fun k e=>by unfold isb at e;omega));have hs7:W2.heap.size≤W7.heap.size:=Yh hs6 O7.out.size
 go_wp2_with fail
 go_loopw [12] (fun vi wx=> ∃k:Nat,k≤M∧vi=.int .i64 k∧Hid (wx.ownsRow W2.heap.size 63 3 (.slice (some ⟨sb,0,none⟩) m caps) m (slc (slN c sec g m k)))∧Hid (Only (isb sb) W7 wx)) (fun vi _=>M - (RowKit.intOf vi).toNat)
 case atStart=>
  refine⟨0,Yt _,rfl,ZZ ?_,ZZ (Only.refl _ _)⟩;have h1:=SR7.out;unfold slN;simpa using h1
 case round=>
 obtain⟨j,hj,rfl,HRS,HOS⟩:=hrel;have OWS:=ZZ (show Only nob w wr from O7w.out.andThen HOS.out fun i hi e=>by unfold isb at e;have:=O2.out.size;omega);have PVS:=ZZ (PV7.out.below (HOS.out.below hs7 fun i e=>by unfold isb at e;omega));have BS:=ZZ (B7.out.keep HOS.out fun e=>by unfold isb at e;omega);have GS:=ZZ (G7.out.keep HOS.out fun e=>by unfold isb at e;omega);have RBS:=ZZ (RB7.out.keep HOS.out fun e=>by unfold isb at e;omega);have g1:wr.cell? ⟨p+1,1,none⟩=some (.slice Ar M cr):=GS.out.cell 1;by_cases hlt2:j<M
 case pos=>
  obtain⟨v,hv⟩: ∃x,g.rt[j]? =some x:=⟨_,Ya (by rw[← HM.out];exact hlt2)⟩
  have hRT:=HI.out.rd.roots;rw[← HM.out] at hRT;obtain⟨br,or_,hAr,hbr,v0,v1⟩:=Zy (l:=g.rt) (by rw[← HM.out];exact hRT) (OWS.out.below HI.out.size fun _ h=>h.elim) hv;subst hAr
  have hvk:v.1=2→0≤v.2∧v.2<((loPl c sec g).length:Int):=fun h2=>by
   obtain⟨i,h3,h4, -⟩:=(HOK.out.tgt ((ZO.1 HOK.out.may).2 v (Yn hv))).2.1 h2
   have:(loPl c sec g).length=g.nd.length:=Zbo ..
   omega
  have hW2w:W2.heap.size≤wr.heap.size:=Yh hs7 HOS.out.size
  have HWD:=ZZ (fun (W:World) (o:Only nob wr W)=>Zki (loPl c sec g) v (.slice Pv N kv) W2.heap.size W (by
   have h1:=PVS.out.below (o.below hW2w fun _ h=>h.elim);rw[HPN.out] at h1 ⊢
   exact h1) (Yh hW2w o.size) hvk)
  have HNX:=ZZ (Zi7 (c:=c) (sec:=sec) (m:=m) hv (by omega));have HAT:=ZZ (ZmJ (c:=c) (sec:=sec) (g:=g) (m:=m) (k:=j) (by have:=HM.out;omega) (by omega));have HLN:=ZZ (ZkP (c:=c) (sec:=sec) (g:=g) (m:=m) (k:=j) (by have:=HM.out;omega) (by omega))
  obtain⟨y,hy⟩: ∃y,y=ZbK (loPl c sec g) v:=⟨_,rfl⟩
  rw[← hy] at HWD HNX;have s9:wr.cell? ⟨q,9,none⟩=some (.slice (some ⟨sb,0,none⟩) m caps):=BS.out.cell 9;have r0:wr.cell? ⟨rb,0,none⟩=some (.slice Pv N kv):=RBS.out.cell 0
  have hjm:j<m:=by omega
  have hbrs:br≠sb:=by have:=HI.out.size;have:=O2.out.size;omega
  clear hy hv hvk hRT
  go_upto_region 13 with fail
  have O0:=ZZ (show Only nob wr wr.drew from(Only.refl nob wr).drewN 1);refine wp_region_held_drew (S:=fun w':World=>w'.cell? ⟨q,9,none⟩=some (.slice (some ⟨sb,0,none⟩) m caps)∧w'.cell? ⟨p+1,1,none⟩=some (.slice (some ⟨br,or_,none⟩) M cr)∧w'.cell? ⟨rb,0,none⟩=some (.slice Pv N kv)∧w'.cell? ⟨br,or_+j * 2,none⟩=some (.int .i64 v.1)∧w'.cell? ⟨br,or_+j * 2+1,none⟩=some (.int .i64 v.2)) (by kernel_rfl) ?_ (fun hHeld=>?_)
  · exact⟨s9,g1,r0,v0,v1⟩
  revert O0 hHeld;generalize wr.drew=Y;intro O hHeld;refine wpAnyH_take (i:=0) (v:=?_) rfl (by kernel_rfl) (by kernel_rfl) (by kernel_rfl) (fun _ _ _ h=>h) (Or.inl ⟨by rfl,?_⟩) hHeld ?_;rotate_left
  · intro w hSw;(try dsimp only at hSw);go_simp;first|done|with_reducible rfl
  try simp only[Act.put,Yb,Yd,Yc,Yg,Ye,Yf]
  refine wpAnyH_take (i:=1) (v:=?_) rfl (by kernel_rfl) (by kernel_rfl) (by kernel_rfl) (fun _ _ _ h=>h) (Or.inl ⟨by rfl,?_⟩) hHeld ?_;rotate_left
  · intro w hSw;(try dsimp only at hSw);go_simp;first|done|with_reducible rfl
  try simp only[Act.put,Yb,Yd,Yc,Yg,Ye,Yf]
  refine wpAnyH_take (i:=2) (v:=?_) rfl (by kernel_rfl) (by kernel_rfl) (by kernel_rfl) (fun _ _ _ h=>h) (Or.inl ⟨by rfl,?_⟩) hHeld ?_;rotate_left
  · intro w hSw;(try dsimp only at hSw);go_simp;first|done|with_reducible rfl
  try simp only[Act.put,Yb,Yd,Yc,Yg,Ye,Yf]
  refine wpAnyH_take (i:=3) (v:=?_) rfl (by kernel_rfl) (by kernel_rfl) (by kernel_rfl) (fun _ _ _ h=>h) (Or.inl ⟨by rfl,?_⟩) hHeld ?_;rotate_left
  · intro w hSw;(try dsimp only at hSw);go_simp;first|done|with_reducible rfl
  try simp only[Act.put,Yb,Yd,Yc,Yg,Ye,Yf]
  refine wpAnyH_take (i:=4) (v:=?_) rfl (by kernel_rfl) (by kernel_rfl) (by kernel_rfl) (fun _ _ _ h=>h) (Or.inl ⟨by rfl,?_⟩) hHeld ?_;rotate_left
  · intro w hSw;(try dsimp only at hSw);go_simp;first|done|with_reducible rfl
  try simp only[Act.put,Yb,Yd,Yc,Yg,Ye,Yf]
  refine wpAnyH_take (i:=5) (v:=?_) rfl (by kernel_rfl) (by kernel_rfl) (by kernel_rfl) (fun _ _ _ h=>h) (Or.inl ⟨by rfl,?_⟩) hHeld ?_;rotate_left
  · intro w hSw;(try dsimp only at hSw);go_simp;first|done|with_reducible rfl
  try simp only[Act.put,Yb,Yd,Yc,Yg,Ye,Yf]
  refine wpAnyH_take (i:=6) (v:=?_) rfl (by kernel_rfl) (by kernel_rfl) (by kernel_rfl) (fun _ _ _ h=>h) (Or.inl ⟨by rfl,?_⟩) hHeld ?_;rotate_left
  · intro w hSw;(try dsimp only at hSw);go_simp;first|done|with_reducible rfl
  try simp only[Act.put,Yb,Yd,Yc,Yg,Ye,Yf]
  refine wpAnyH_take (i:=7) (v:=?_) rfl (by kernel_rfl) (by kernel_rfl) (by kernel_rfl) (fun _ _ _ h=>h) (Or.inl ⟨by rfl,?_⟩) hHeld ?_;rotate_left
  · intro w hSw;(try dsimp only at hSw);go_simp;first|done|with_reducible rfl
  try simp only[Act.put,Yb,Yd,Yc,Yg,Ye,Yf]
  refine wpAnyH_take (i:=8) (v:=?_) rfl (by kernel_rfl) (by kernel_rfl) (by kernel_rfl) (fun _ _ _ h=>h) (Or.inl ⟨by rfl,?_⟩) hHeld ?_;rotate_left
  · intro w hSw;(try dsimp only at hSw);go_simp;first|done|with_reducible rfl
  try simp only[Act.put,Yb,Yd,Yc,Yg,Ye,Yf]
  refine wpAnyH_take (i:=9) (v:=?_) rfl (by kernel_rfl) (by kernel_rfl) (by kernel_rfl) (fun _ _ _ h=>h) (Or.inl ⟨by rfl,?_⟩) hHeld ?_;rotate_left
  · intro w hSw;(try dsimp only at hSw);go_simp;first|done|with_reducible rfl
  try simp only[Act.put,Yb,Yd,Yc,Yg,Ye,Yf]
  refine wpAnyH_ready (rs:=[10]) (by kernel_rfl) (by simp) (AllReadyH.cons rfl (fun K hK=>?_) AllReadyH.nil);go_simp;go_at_call 25;refine(HWD.out _ O.out).mono ?_;rintro e Y ⟨rfl,o⟩;have O:=ZZ (O.out.trans o);clear o;refine hK.out _ _ ⟨O.out.keeps s9,O.out.keeps g1,O.out.keeps r0,O.out.keeps v0,O.out.keeps v1⟩ (fun hHeld2=>?_);clear hK K hHeld;have hHeld:=hHeld2;clear hHeld2
  try simp only[Act.put,Yb,Yd,Yc,Yg,Ye,Yf]
  refine wpAnyH_take (i:=11) (v:=?_) rfl (by kernel_rfl) (by kernel_rfl) (by kernel_rfl) (fun _ _ _ h=>h) (Or.inl ⟨by rfl,?_⟩) hHeld ?_;rotate_left
  · intro w hSw;(try dsimp only at hSw);go_simp;first|done|with_reducible rfl
  try simp only[Act.put,Yb,Yd,Yc,Yg,Ye,Yf]
  refine wpAnyH_take (i:=12) (v:=?_) rfl (by kernel_rfl) (by kernel_rfl) (by kernel_rfl) (fun _ _ _ h=>h) (Or.inl ⟨by rfl,?_⟩) hHeld ?_;rotate_left
  · intro w hSw;(try dsimp only at hSw);go_simp;first|done|with_reducible rfl
  try simp only[Act.put,Yb,Yd,Yc,Yg,Ye,Yf]
  refine wpAnyH_ready (rs:=[13]) (by kernel_rfl) (by simp) (AllReadyH.cons rfl (fun K hK=>?_) AllReadyH.nil);have hrow:=Zb HRS.out O.out fun _ _=>id;obtain⟨⟨⟨t0,t1,t2⟩,f0,f1,f2⟩,hZZ⟩:=ZcL hrow HLN.out HAT.out (true,0,y);have HZZ:=ZZ hZZ;clear hZZ;simp only at t0 t1 t2;go_simp;obtain⟨Z,hZ,RZ,oZ⟩:=HZZ.out;simp only at hZ
  with_reducible rw[hZ]
  have hkz: ∀(bl o:Nat) (v:Value),bl≠sb→wr.cell? ⟨bl,o,none⟩=some v→Z.cell? ⟨bl,o,none⟩=some v:=fun bl o v hne hc=>(oZ.cell (p:=⟨bl,o,none⟩) (World.block_lt_of_cell? Y ⟨bl,o,none⟩ (O.out.keeps hc)) hne).trans (O.out.keeps hc);have z1:=hkz q 9 _ (by omega) s9;have z2:=hkz (p+1) 1 _ (by omega) g1;have z3:=hkz rb 0 _ (by omega) r0;have z4:=hkz br _ _ hbrs v0;have z5:=hkz br _ _ hbrs v1;have RZ':=ZZ (show Z.ownsRow W2.heap.size 63 3 (.slice (some ⟨sb,0,none⟩) m caps) m (slc (slN c sec g m (j+1))) by rw[← HNX.out];exact RZ);have OZ:=ZZ ((HOS.out.andThen O.out fun _ _ h=>h.elim).trans oZ);clear t0 t1 t2 f0 f1 f2 hZ RZ oZ hkz hrow;refine hK.out _ _ ⟨z1,z2,z3,z4,z5⟩ (fun hHeld2=>?_);clear hK K hHeld z1 z2 z3 z4 z5 s9 g1 r0 v0 v1;refine wpAnyH_done (by kernel_rfl) ?_ _;go_wp2
  go_roundw
  case rel=>exact⟨j+1,by omega,by go_num,RZ',OZ⟩
  case measure=>simp[RowKit.intOf];omega
 case neg=>
 obtain rfl:j=M:=by omega
 have R8:=ZZ (R7.out.keep HOS.out fun e=>by unfold isb at e;omega);obtain⟨z0,z1,z2,z3,z4,z5,z6,z7,z8,z9⟩:=Zg BS.out;obtain⟨s0,s1,s2,s3,s4,s5,s6,s7,s8,s9⟩:=Zg R8.out;obtain⟨f0,f1,f2,f3,f4,f5,f6,f7,f8,f9⟩:=Zv R8.out
 go_wp2_with fail
 clear s0 s1 s2 s3 s4 s5 s6 s7 s8 s9 f0 f1 f2 f3 f4 f5 f6 f7 f8 f9 z0 z1 z2 z3 z4 z5 z6 z7 z8 z9 g1;obtain⟨W9,hW9,o9,q9,B9⟩:=Z6 OWS.out (by have:=HP.out;omega) R8.out (.int .i64 c.semi) (.int .i64 c.large) (.int .i64 c.slots) (.int .i64 c.limit) (.bool sec) (.slice (some ⟨bw,0,none⟩) n capw) (.int .i64 T) (.slice At nt ct) (.slice Av nf cv) (.slice (some ⟨sb,0,none⟩) m caps)
 with_reducible rw[hW9]
 obtain⟨h0,h1,h2,h3,h4,h5,h6,h7,h8,h9⟩:=Zg B9;have bl7:Below W2.heap.size W2 wr:=(((N4.out.below (Yi _) fun _ h=>h.elim).trans (O5.out.below N4.out.size fun k e=>by unfold isb at e;omega)).trans (N6.out.below hs5 fun _ h=>h.elim)).trans ((O7.out.below hs6 fun k e=>by unfold isb at e;omega).trans (HOS.out.below hs7 fun k e=>by unfold isb at e;omega));have t1:=TV2.out.below bl7;have t2:=FV2.out.below bl7;have t3:=Zb WR7.out HOS.out fun i e e2=>Zbp WR7.out SR7.out (by decide) i e (by unfold isb at e2;rw[e2];rfl);have t4:=HRS.out;have u3:=Zb t3 q9 (Zd t3 R8.out (by decide));have u4:=Zb t4 q9 (Zd t4 R8.out (by decide));have hwm:W2.heap.size≤wr.heap.size:=Yh hs7 HOS.out.size;rw[HNT.out.1] at t1;rw[HNT.out.2] at t2;have u1:=ZeM (l:=(ZaK c sec g).tb) HOK.out.tb_nz t1 R8.out q9 hwm;have u2:=ZeM (l:=(ZaK c sec g).fr) (fun x hx=>Zoi (k:=g.nd.length) HOK.out.ok HOK.out.szs (by rw[List.take_length];exact HOK.out.big) x (by unfold loFr;rw[List.take_length];exact hx)) t2 R8.out q9 hwm;rw[← HNT.out.1] at u1;rw[← HNT.out.2] at u2
 have ew:Zav (rowsOf (loPl c sec g) g.nd) (List.replicate n 0)=loW c sec g:=by rw[HNM.out.1];rfl
 rw[ew] at u3
 (try simp only[Exit.inBlock,Exit.then])
 refine bodyPost_ret (v:=.tuple #[.agg #[.int .i64 c.semi,.int .i64 c.large,.int .i64 c.slots,.int .i64 c.limit,.bool sec,.slice (some ⟨bw,0,none⟩) n capw,.int .i64 T,.slice At nt ct,.slice Av nf cv,.slice (some ⟨sb,0,none⟩) m caps],.int .i64 0]) (by simp[results,Tryz.results9,go_sem,h0,h1,h2,h3,h4,h5,h6,h7,h8,h9]) rfl ?_;refine⟨ZaK c sec g,.slice (some ⟨bw,0,none⟩) n capw,.slice At nt ct,.slice Av nf cv,.slice (some ⟨sb,0,none⟩) m caps,(ZaO HE.out).1.symm,by rw[HE.out,HT.out];rfl,⟨?_,?_,?_,?_⟩,o9⟩
 · have e:(loW c sec g).length=n:=by have:=u3.1;rw[ZV] at this;omega
   show Sl W9 W9.heap.size 1 _ (loW c sec g).length (u64s (loW c sec g));rw[e];exact Sl.of_own u3 u3.1
 · rw[← HNT.out.1];exact u1
 · rw[← HNT.out.2];exact u2
 · have e:slN c sec g m j=Zec c sec g:=by
    unfold slN Zec;rw[HM.out,List.take_length,HNM.out.2]
   rw[e] at u4
   have e2:(Zec c sec g).length=m:=by have:=u4.1;rw[ZaP] at this;omega
   show Sl W9 W9.heap.size 3 _ (Zec c sec g).length (slc (Zec c sec g));rw[e2];exact Sl.of_own u4 u4.1
end Go.Proofs.YtknoncenblehkaaGreatDoor
