/- Package lower: Places, Fits, Lower. -/
import Derived.Test.YtknoncenblehkaaGreatDoorG42
import Derived.Test.YtknoncenblehkaaGreatDoorG44
set_option maxRecDepth 100000
set_option maxHeartbeats 32000000
set_option linter.unusedSimpArgs false
set_option linter.unusedVariables false
namespace Go.Proofs.YtknoncenblehkaaGreatDoor
open Go.RowKit Go.Lib
theorem Zg6:ZpP 10:=by
 intro c sec g vn vr hs B w h;obtain⟨A,cn,rfl,hac,hcm⟩:=h.rd.nodes.form;obtain⟨Ar,cr,rfl,hacr,hcmr⟩:=h.rd.roots.form;obtain⟨W,hW,HB⟩:=Zdh w c (.slice A g.nd.length cn) (.slice Ar g.rt.length cr);have HW:=ZZ hW
 obtain⟨p,hp⟩: ∃p,p=w.heap.size:=⟨_,rfl⟩
 have HP:=ZZ hp;rw[← hp] at HB;have HST:=ZZ (ZjT c sec g _ _ hs B W (h.keep HB.out.1));obtain⟨c0,c1,c2,c3⟩:=HB.out.2.1;have g0:W.cell? ⟨p+1,0,none⟩=some (.slice A g.nd.length cn):=HB.out.2.2.cell 0;have g1:W.cell? ⟨p+1,1,none⟩=some (.slice Ar g.rt.length cr):=HB.out.2.2.cell 1;clear hW hp h
 go_enter Tryz.func10,Tryz.ntmps10
 go_upto_region 1 with fail
 rw[HW.out, ← HP.out]
 go_wp2_with fail
 go_at_call 19;refine HST.out.mono ?_;intro e w1 HS;have HS:=ZZ HS;have O1:=ZZ (HB.out.1.trans HS.out.2.2);clear c0 c1 c2 c3 g0 g1;by_cases he:loE c sec g=0
 case pos=>
  obtain⟨tv,fv,pv,rfl,ht,hf,hpv⟩:=HS.out.1 he;have HE:=ZZ he;obtain⟨At,ct,rfl, -, -⟩:=ht.form;obtain⟨Av,cv,rfl, -, -⟩:=hf.form;obtain⟨Pv,kv,rfl, -, -⟩:=hpv.form;have HPV:=ZZ hpv;obtain⟨W2,hW2,HB2⟩:=Zcm w1 #[.int .i64 c.semi,.int .i64 c.large,.int .i64 c.slots,.int .i64 c.limit,.int .i64 (Zj c sec).1,.int .i64 (Zj c sec).2,.int .i64 (loT c sec+sSm c g.nd),.slice At (tbL c (loB c) g.nd).length ct,.slice Av (frL (loB c+sBg c g.nd) (ZD c)).length cv];have HW2:=ZZ hW2;clear HS ht hf hpv hW2 he
  go_upto_region 2 with fail
  rw[HW2.out];go_wp2;go_ret2;refine⟨.slice Pv (loPl c sec g).length kv,by rw[HE.out];rfl,?_,O1.out.trans HB2.out.1⟩;rw[(ZaO HE.out).2];exact(HPV.out.below HB2.out.1.whole).more HB2.out.1.size
 case neg=>
  obtain rfl:=HS.out.2.1 he;have HE:=ZZ he;obtain⟨W2,hW2,HB2⟩:=Zcm w1 #[.int .i64 0,.int .i64 0,.int .i64 0,.int .i64 0,.int .i64 0,.int .i64 0,.int .i64 0,.slice none 0 0,.slice none 0 0];have HW2:=ZZ hW2;clear HS hW2 he
  go_upto_region 2 with fail
  rw[HW2.out];go_wp2;go_ret2;refine⟨.slice none 0 0,rfl,?_,O1.out.trans HB2.out.1⟩;rw[(ZcI HE.out).2];exact Sl.nil_
theorem ZoM:ZpU 14:=by
 intro c g vn vr hs B w h;obtain⟨A,cn,rfl,hac,hcm⟩:=h.rd.nodes.form;obtain⟨Ar,cr,rfl,hacr,hcmr⟩:=h.rd.roots.form;obtain⟨W,hW,HB⟩:=Zdh w c (.slice A g.nd.length cn) (.slice Ar g.rt.length cr);have HW:=ZZ hW
 obtain⟨p,hp⟩: ∃p,p=w.heap.size:=⟨_,rfl⟩
 have HP:=ZZ hp;rw[← hp] at HB;have HPL:=ZZ (Zg6 c false g _ _ hs B W (h.keep HB.out.1))
 obtain⟨q,hq⟩: ∃q,q=loE c false g:=⟨_,rfl⟩
 rw[← hq] at HPL ⊢;obtain⟨c0,c1,c2,c3⟩:=HB.out.2.1;have g0:W.cell? ⟨p+1,0,none⟩=some (.slice A g.nd.length cn):=HB.out.2.2.cell 0;have g1:W.cell? ⟨p+1,1,none⟩=some (.slice Ar g.rt.length cr):=HB.out.2.2.cell 1;clear hW hp h hq
 go_enter Tryz.func14,Tryz.ntmps14
 go_upto_region 1 with fail
 rw[HW.out, ← HP.out]
 go_wp2_with fail
 go_at_call 10;refine HPL.out.mono ?_;rintro e w1 ⟨v,rfl,hv,o⟩;obtain⟨Av,cv,rfl, -, -⟩:=hv.form;have O1:=ZZ (HB.out.1.trans o);clear o hv c0 c1 c2 c3 g0 g1;go_wp2;go_ret;exact⟨Za rfl,O1.out⟩
theorem Zjc (w:World) (c:Cf) (vn vr:Value): ∃W,((w.alloc (.cells #[.int .i64 c.semi,.int .i64 c.large,.int .i64 c.slots,.int .i64 c.limit] 23)).alloc (.cells #[vn,vr] 27)).alloc (.cells #[.int .i64 0,.int .i64 0,.int .i64 0,.int .i64 0,.bool false,.slice none 0 0,.int .i64 0,.slice none 0 0,.slice none 0 0,.slice none 0 0] 34)=W∧Hid (Only nob w W∧CBox W w.heap.size c∧Blk W (w.heap.size+1) 27 #[vn,vr]∧Blk W (w.heap.size+1+1) 34 #[.int .i64 0,.int .i64 0,.int .i64 0,.int .i64 0,.bool false,.slice none 0 0,.int .i64 0,.slice none 0 0,.slice none 0 0,.slice none 0 0]):=by
 obtain⟨W,hW,HB⟩:=Zdh w c vn vr;rw[hW]
 have hs:W.heap.size=w.heap.size+1+1:=by rw[← hW];simp
 have hn:Only nob W (W.alloc (.cells #[.int .i64 0,.int .i64 0,.int .i64 0,.int .i64 0,.bool false,.slice none 0 0,.int .i64 0,.slice none 0 0,.slice none 0 0,.slice none 0 0] 34)):=(Only.refl nob W).alloc _;refine⟨_,rfl,ZZ ⟨HB.out.1.trans hn,HB.out.2.1.keep hn,HB.out.2.2.keep hn id,?_⟩⟩;have h:=Blk.new W 34 #[.int .i64 0,.int .i64 0,.int .i64 0,.int .i64 0,.bool false,.slice none 0 0,.int .i64 0,.slice none 0 0,.slice none 0 0,.slice none 0 0]
 rwa [hs] at h
theorem ZbL {w:World} {b n s:Nat} {E:TypeId} {v:Value} {xs:List Value} (h:w.ownsRow b E s v n xs) (hn:0<n): ∃g c,v=.slice (some ⟨g,0,none⟩) n c∧n≤c∧c≤maxLen∧b≤g∧g<w.heap.size:=by
 rcases h.2 with⟨-,e⟩|⟨g,cap,cur,e,hb,hg,h1,h2, -⟩
 · omega
 · exact⟨g,cap,e,h1,h2,hb,Blk.lt (show Blk w g E cur from hg)⟩
theorem ZcL {w:World} {base sb m caps k:Nat} {l:List Slt} {t:Slt} (h:w.ownsRow base 63 3 (.slice (some ⟨sb,0,none⟩) m caps) m (slc l)) (hl:l.length=m) (ht:l[k]? =some t) (s:Slt):
 ((w.cell? ⟨sb,k * 3,none⟩=some (.bool t.1)∧w.cell? ⟨sb,k * 3+1,none⟩=some (.int .i64 t.2.1)∧w.cell? ⟨sb,k * 3+2,none⟩=some (.int .u64 (t.2.2:Nat)))∧(w.frozen? ⟨sb,k * 3,none⟩=false∧w.frozen? ⟨sb,k * 3+1,none⟩=false∧w.frozen? ⟨sb,k * 3+2,none⟩=false))∧
 ∃W,((w.setCell ⟨sb,k * 3,none⟩ (.bool s.1)).setCell ⟨sb,k * 3+1,none⟩ (.int .i64 s.2.1)).setCell ⟨sb,k * 3+2,none⟩ (.int .u64 (s.2.2:Nat))=W∧W.ownsRow base 63 3 (.slice (some ⟨sb,0,none⟩) m caps) m (slc (l.set k s))∧Only (isb sb) w W:=by
 have hk:=(Yj.1 ht).1;obtain⟨e0,e1,e2⟩:=ZeW l k t ht;obtain⟨cs,hb⟩:=ZaZ h (k:=sb) rfl;refine⟨⟨⟨(h.cellAt (k * 3) (by omega)).trans e0,(h.cellAt (k * 3+1) (by omega)).trans e1,(h.cellAt (k * 3+2) (by omega)).trans e2⟩,hb.free _,hb.free _,hb.free _⟩,_,rfl,?_,((Zc _ sb _ _).trans (Zc _ sb _ _)).trans (Zc _ sb _ _)⟩;have h1:=Zan (Zan (Zan h (k * 3) (by omega) (.bool s.1)) (k * 3+1) (by omega) (.int .i64 s.2.1)) (k * 3+2) (by omega) (.int .u64 (s.2.2:Nat))
 rwa [ZjI l k s hk] at h1
def slN (c:Cf) (sec:Bool) (g:Gr) (m k:Nat):List Slt:=((g.rt.take k).map fun v=>((true,0,ZbK (loPl c sec g) v):Slt))++List.replicate (m - k) ((false,0,0):Slt)
theorem ZkP {c:Cf} {sec:Bool} {g:Gr} {m k:Nat} (hk:k≤g.rt.length) (hm:k≤m):(slN c sec g m k).length=m:=by unfold slN;simp;omega
theorem ZmJ {c:Cf} {sec:Bool} {g:Gr} {m k:Nat} (hk:k≤g.rt.length) (hm:k<m):(slN c sec g m k)[k]? =some (false,0,0):=by
 unfold slN;rw[List.getElem?_append_right (by simp;omega),List.getElem?_replicate,if_pos (by simp;omega)]
theorem Zi7 {c:Cf} {sec:Bool} {g:Gr} {m k:Nat} {v:Sp} (hv:g.rt[k]? =some v) (hm:k<m):(slN c sec g m k).set k (true,0,ZbK (loPl c sec g) v)=slN c sec g m (k+1):=by
 have hk:=(Yj.1 hv).1
 have hl:((g.rt.take k).map fun v=>((true,0,ZbK (loPl c sec g) v):Slt)).length=k:=by simp;omega
 unfold slN;rw[List.set_append_right _ _ (by omega),hl,Nat.sub_self,show m - k=(m - (k+1))+1 by omega,List.replicate_succ,Yd,List.take_add_one,hv,List.map_append,List.append_assoc];rfl
theorem LoOk.tb_nz {c:Cf} {sec:Bool} {g:Gr} (h:LoOk c sec g): ∀x∈tbL c (loB c) g.nd,x.1≠0:=fun x hx=>by
 obtain⟨r1, -, -⟩:=ZeC (c:=c) g.nd (loB c) h.szs;have h1:=r1 x hx;have h2:=h.big;have h3:=Zay h.ok;have h4:=h.ok;unfold Cf.ok at h4;omega
theorem ZhL (w:World) (cs:Array Value): ∃W,w.alloc (.cells cs 34)=W∧Hid (Only nob w W∧Blk W w.heap.size 34 cs):=⟨_,rfl,ZZ ⟨(Only.refl nob w).alloc _,Blk.new _ _ _⟩⟩
theorem ZnY:Zpu 8:=by
 intro c sec g vn vr hs B w h;obtain⟨A,cn,rfl,hac,hcm⟩:=h.rd.nodes.form;obtain⟨Ar,cr,rfl,hacr,hcmr⟩:=h.rd.roots.form;unfold maxLen at hcm hcmr;obtain⟨W,hW,HB⟩:=Zjc w c (.slice A g.nd.length cn) (.slice Ar g.rt.length cr);have HW:=ZZ hW
 obtain⟨p,hp⟩: ∃p,p=w.heap.size:=⟨_,rfl⟩
 have HP:=ZZ hp;rw[← hp] at HB;have HI:=ZZ h;have HST:=ZZ (ZjT c sec g _ _ hs B W (h.keep HB.out.1));obtain⟨c0,c1,c2,c3⟩:=HB.out.2.1;have g0:W.cell? ⟨p+1,0,none⟩=some (.slice A g.nd.length cn):=HB.out.2.2.1.cell 0;have g1:W.cell? ⟨p+1,1,none⟩=some (.slice Ar g.rt.length cr):=HB.out.2.2.1.cell 1;clear hW hp h
 go_enter Tryz.func8,Tryz.ntmps8
 go_upto_region 1 with fail
 rw[HW.out, ← HP.out]
 go_wp2_with fail
 go_at_call 19;refine HST.out.mono ?_;intro e w1 HS;have HS:=ZZ HS;have O1:=ZZ (HB.out.1.trans HS.out.2.2);clear c0 c1 c2 c3 g0 g1;by_cases he:loE c sec g=0
 case neg=>
  obtain rfl:=HS.out.2.1 he;have HE:=ZZ he;obtain⟨W2,hW2,HB2⟩:=Zcm w1 #[.int .i64 0,.int .i64 0,.int .i64 0,.int .i64 0,.int .i64 0,.int .i64 0,.int .i64 0,.slice none 0 0,.slice none 0 0];have HW2:=ZZ hW2;have R2:=ZZ (HB.out.2.2.2.keep (HS.out.2.2.trans HB2.out.1) id);have O2:=ZZ (O1.out.trans HB2.out.1)
  obtain⟨q,hq⟩: ∃q,q=loE c sec g:=⟨_,rfl⟩
  have HQ:=ZZ hq;rw[← hq] at he ⊢
  have hqb:(q !=0)=true:=by simpa using he
  clear HS hW2 he hq
  go_upto_region 2 with fail
  rw[HW2.out];obtain⟨s0,s1,s2,s3,s4,s5,s6,s7,s8,s9⟩:=Zg R2.out;obtain⟨f0,f1,f2,f3,f4,f5,f6,f7,f8,f9⟩:=Zv R2.out
  go_wp2_with fail
  clear s0 s1 s2 s3 s4 s5 s6 s7 s8 s9 f0 f1 f2 f3 f4 f5 f6 f7 f8 f9;obtain⟨W9,hW9,o9, -,B9⟩:=Z6 O2.out (by have:=HP.out;omega) R2.out (.int .i64 0) (.int .i64 0) (.int .i64 0) (.int .i64 0) (.bool false) (.slice none 0 0) (.int .i64 0) (.slice none 0 0) (.slice none 0 0) (.slice none 0 0)
  with_reducible rw[hW9]
  obtain⟨h0,h1,h2,h3,h4,h5,h6,h7,h8,h9⟩:=Zg B9
  (try simp only[Exit.inBlock,Exit.then])
  refine bodyPost_ret (v:=.tuple #[.agg #[.int .i64 0,.int .i64 0,.int .i64 0,.int .i64 0,.bool false,.slice none 0 0,.int .i64 0,.slice none 0 0,.slice none 0 0,.slice none 0 0],.int .i64 q]) (by simp[results,Tryz.results8,go_sem,h0,h1,h2,h3,h4,h5,h6,h7,h8,h9]) rfl ?_;refine⟨noS,.slice none 0 0,.slice none 0 0,.slice none 0 0,.slice none 0 0,(ZcI HE.out).1.symm,by rw[← HQ.out];rfl,⟨Sl.nil_,Sl.nil_,Sl.nil_,Sl.nil_⟩,o9⟩
 case pos=>
 obtain⟨tv,fv,pv,rfl,ht,hf,hpv⟩:=HS.out.1 he;have HE:=ZZ he;have HOK:=ZZ (Zb4.1 he);obtain⟨At,ct,rfl, -, -⟩:=ht.form;obtain⟨Av,cv,rfl, -, -⟩:=hf.form;obtain⟨Pv,kv,rfl, -, -⟩:=hpv.form
 obtain⟨nt,hnt⟩: ∃n,n=(tbL c (loB c) g.nd).length:=⟨_,rfl⟩
 obtain⟨nf,hnf⟩: ∃n,n=(frL (loB c+sBg c g.nd) (ZD c)).length:=⟨_,rfl⟩
 have HNT:=ZZ (And.intro hnt hnf);rw[← hnt] at ht;rw[← hnf] at hf
 obtain⟨N,hN⟩: ∃N,N=g.nd.length:=⟨_,rfl⟩
 have HN:=ZZ hN
 have hplen:(loPl c sec g).length=N:=by rw[hN];exact Zbo ..
 have HPN:=ZZ hplen;rw[← hnt, ← hnf, ← hN,hplen];obtain⟨W2,hW2,HB2⟩:=Zcm w1 #[.int .i64 c.semi,.int .i64 c.large,.int .i64 c.slots,.int .i64 c.limit,.int .i64 (Zj c sec).1,.int .i64 (Zj c sec).2,.int .i64 (loT c sec+sSm c g.nd),.slice At nt ct,.slice Av nf cv];have HW2:=ZZ hW2;have N2:=ZZ (HS.out.2.2.trans HB2.out.1);have O2:=ZZ (HB.out.1.trans N2.out);have X2:=ZZ (HB.out.2.1.keep N2.out);have G2:=ZZ (HB.out.2.2.1.keep N2.out id);have R2:=ZZ (HB.out.2.2.2.keep N2.out id);have TV2:=ZZ ((ht.below HB2.out.1.whole).more HB2.out.1.size);have FV2:=ZZ ((hf.below HB2.out.1.whole).more HB2.out.1.size);have PV2:=ZZ ((hpv.below HB2.out.1.whole).more HB2.out.1.size)
 obtain⟨rb,hrb⟩: ∃b,b=w1.heap.size:=⟨_,rfl⟩
 have HRB:=ZZ hrb;have RB2:=ZZ HB2.out.2;rw[← hrb] at RB2
 have hprb:p+1+1<rb:=by rw[hrb];exact Yv HB.out.2.2.2.lt HS.out.2.2.size
 have HNEW:=ZZ (Zl6 c W2 HI.out.cfit HOK.out.ok);clear HS hW2 he hnt hnf hN ht hf hpv hrb hplen;rw[← HN.out] at hac
 go_upto_region 2 with fail
 rw[HW2.out, ← HRB.out];obtain⟨c0,c1,c2,c3⟩:=X2.out
 go_wp2_with fail
 go_at_call 20;refine HNEW.out.mono ?_;rintro e w3 ⟨vw,vf,vs,rfl,hrd,hw,hsl,o⟩
 obtain⟨n,hn⟩: ∃n,n=(Zk c).toNat:=⟨_,rfl⟩
 obtain⟨m,hm⟩: ∃n,n=c.slots.toNat:=⟨_,rfl⟩
 have HNM:=ZZ (And.intro hn hm);have hwl:=Za7 HOK.out.ok;have hok':=HOK.out.ok;unfold Cf.ok at hok';rw[List.length_replicate, ← hm] at hsl;rw[← hn] at hw;obtain⟨b,capw,rfl,hbc,hbm,hbb,hbl⟩:=ZbL hw (by omega);obtain⟨sb,caps,rfl,hsc,hsm,hsb,hsl'⟩:=ZbL hsl (by omega);obtain⟨Af,kf,rfl, -, -⟩:=hrd.free.form;obtain⟨W4,hW4,HB4⟩:=ZhL w3 #[.int .i64 c.semi,.int .i64 c.large,.int .i64 c.slots,.int .i64 c.limit,.bool false,.slice (some ⟨b,0,none⟩) n capw,.int .i64 0,.slice none 0 0,.slice Af (Zmv c).fr.length kf,.slice (some ⟨sb,0,none⟩) m caps];have HW4:=ZZ hW4
 obtain⟨q,hq⟩: ∃b,b=w3.heap.size:=⟨_,rfl⟩
 have HQ:=ZZ hq;have N4:=ZZ (o.trans HB4.out.1);have O4:=ZZ (O2.out.trans N4.out);have R4:=ZZ (R2.out.keep N4.out id);have RB4:=ZZ (RB2.out.keep N4.out id);have G4:=ZZ (G2.out.keep N4.out id);have B4:=ZZ HB4.out.2;rw[← hq] at B4;have WR4:=ZZ (Zb hw HB4.out.1 fun _ _=>id);have SR4:=ZZ (Zb hsl HB4.out.1 fun _ _=>id)
 have hn1:n≤98304:=by omega
 have hm1:m≤1024:=by omega
 obtain⟨T,hT⟩: ∃T,T=loT c sec+sSm c g.nd:=⟨_,rfl⟩
 have HT:=ZZ hT;rw[← hT] at RB4
 have hqq:p+1+1<rb∧rb<W2.heap.size∧W2.heap.size≤b∧W2.heap.size≤sb∧b<q∧sb<q:=⟨hprb,RB2.out.lt,hbb,hsb,by rw[hq];exact hbl,by rw[hq];exact hsl'⟩
 clear hW4 hq hrd hw hsl o c0 c1 c2 c3 hn hm hok' hwl hT
 go_upto_region 5 with fail
 rw[HW4.out, ← HQ.out, ← HT.out];have r6:W4.cell? ⟨rb,6,none⟩=some (.int .i64 T):=RB4.out.cell 6;have r7:W4.cell? ⟨rb,7,none⟩=some (.slice At nt ct):=RB4.out.cell 7;have r8:W4.cell? ⟨rb,8,none⟩=some (.slice Av nf cv):=RB4.out.cell 8;have s4:W4.cell? ⟨q,4,none⟩=some (.bool false):=B4.out.cell 4;have s6:W4.cell? ⟨q,6,none⟩=some (.int .i64 0):=B4.out.cell 6;have s7:W4.cell? ⟨q,7,none⟩=some (.slice none 0 0):=B4.out.cell 7;have s8:W4.cell? ⟨q,8,none⟩=some (.slice Af (Zmv c).fr.length kf):=B4.out.cell 8;have f4:=B4.out.free 4;have f6:=B4.out.free 6;have f7:=B4.out.free 7;have f8:=B4.out.free 8
 go_wp2_with fail
 go_region
 clear r6 r7 r8 s4 s6 s7 s8 f4 f6 f7 f8
 obtain⟨W5,hW5,O5,B5⟩: ∃W5,((((W4.setCell ⟨q,4,none⟩ (.bool sec)).setCell ⟨q,6,none⟩ (.int .i64 T)).setCell ⟨q,7,none⟩ (.slice At nt ct)).setCell ⟨q,8,none⟩ (.slice Av nf cv)).drew=W5∧Hid (Only (isb q) W4 W5)∧Hid (Blk W5 q 34 #[.int .i64 c.semi,.int .i64 c.large,.int .i64 c.slots,.int .i64 c.limit,.bool sec,.slice (some ⟨b,0,none⟩) n capw,.int .i64 T,.slice At nt ct,.slice Av nf cv,.slice (some ⟨sb,0,none⟩) m caps]):=by
  refine⟨_,rfl,ZZ ((((((Zc _ q 4 _).trans (Zc _ q 6 _)).trans (Zc _ q 7 _)).trans (Zc _ q 8 _))).drewN 1),ZZ ?_⟩;have h1:=(((B4.out.put 4 (.bool sec)).put 6 (.int .i64 T)).put 7 (.slice At nt ct)).put 8 (.slice Av nf cv);simp only[Yb,Yd,Yc] at h1;exact h1
 rw[hW5];have WR5:=ZZ (Zb WR4.out O5.out fun k e e2=>by unfold isb at e2;have:=Yo e;simp only at this;omega);have SR5:=ZZ (Zb SR4.out O5.out fun k e e2=>by unfold isb at e2;have:=Yo e;simp only at this;omega);have O5w:=ZZ (O4.out.andThen O5.out fun i hi e=>by unfold isb at e;have:=HP.out;omega);have G5:=ZZ (G4.out.keep O5.out fun e=>by unfold isb at e;omega);have R5:=ZZ (R4.out.keep O5.out fun e=>by unfold isb at e;omega);have PV5:=ZZ (PV2.out.below ((N4.out.below (Yi _) fun _ h=>h.elim).trans (O5.out.below N4.out.size fun k e=>by unfold isb at e;omega)))
 have g0:W5.cell? ⟨p+1,0,none⟩=some (.slice A N cn):=by rw[HN.out];exact G5.out.cell 0
 have hWO:=HOK.out.wrOk;rw[← HNM.out.1] at hWO;have HWO:=ZZ hWO;clear hW5 hWO
 go_wp2_with fail
 clear g0
 go_loopw [48] (fun vi wr=> ∃k:Nat,k≤N∧vi=.int .i64 k∧Hid (wr.ownsRow W2.heap.size 57 1 (.slice (some ⟨b,0,none⟩) n capw) n (u64s (Zav ((rowsOf (loPl c sec g) g.nd).take k) (List.replicate n 0))))∧Hid (Only (isb b) W5 wr)) (fun vi _=>N - (RowKit.intOf vi).toNat)
 case atStart=>exact⟨0,Yt _,rfl,ZZ WR5.out,ZZ (Only.refl _ _)⟩
 case round=>
 obtain⟨k,hk,rfl,HRW,HO⟩:=hrel
 have hBb:B≤b:=by have:=HI.out.size;have:=O2.out.size;omega
 have OW:=ZZ (show Only nob w wr from O5w.out.andThen HO.out fun i hi e=>by unfold isb at e;have:=O2.out.size;omega);have PVR:=ZZ (PV5.out.below (HO.out.below (by have:=hqq;have:=N4.out.size;have:=O5.out.size;omega) fun i e=>by unfold isb at e;omega));by_cases hlt:k<N
 case pos=>
  obtain⟨d,hd⟩: ∃x,g.nd[k]? =some x:=⟨_,Ya (by rw[← HN.out];exact hlt)⟩
  obtain⟨z,hz⟩: ∃x,(loPl c sec g)[k]? =some x:=⟨_,Ya (by rw[HPN.out];exact hlt)⟩
  obtain⟨hz0,hfit⟩:=HWO.out.fits k z d hz hd
  obtain⟨p',rfl⟩: ∃p:Nat,z=p:=⟨z.toNat,by omega⟩
  rw[Int.toNat_natCast] at hfit
  have hpn:p'<n:=by rw[Zck] at hfit;omega
  obtain⟨bb,oo,fv',rv',hA,hbb2,hh,q0,q1,q2,hnd'⟩:=HI.out.rd.at_ (OW.out.below HI.out.size fun _ h=>h.elim) hd;subst hA;obtain⟨Ff,ff,hff, -, -⟩:=hnd'.fields.form;obtain⟨Fq,fq,hfq, -, -⟩:=hnd'.raws.form;simp only at hff hfq;subst hff hfq;have hPV:=PVR.out;rw[HPN.out] at hPV;obtain⟨bp,op,hPA,hbp,z0⟩:=ZcP (l:=loPl c sec g) (k:=k) (by rw[HPN.out];exact hPV) (Below.refl _ _) hz;subst hPA;obtain⟨Y0,hY0,HBY⟩:=ZaA wr d.kd (.slice Ff d.fs.length ff) (.slice Fq d.rs.length fq);have HY0:=ZZ hY0
  obtain⟨nb,hnb⟩: ∃z,z=wr.heap.size:=⟨_,rfl⟩
  have HNB:=ZZ hnb;have BY:=ZZ HBY.out.2.1;rw[← hnb] at BY;have OY:=ZZ HBY.out.1;have OYD:=ZZ (show Only nob wr Y0.drew from OY.out.drewN 1)
  have hcut: ∀w,(Instr.sliceAt 30 (.slice (some ⟨b,0,none⟩) n capw) (some (.int .i64 ((p':Nat):Int))) none none).run Tryz.prog w=.ok (.slice (some ⟨b,p',none⟩) (n - p') (capw - p')) w:=fun w=>by
   obtain⟨i0,hi0,hz0,hz1,hz2⟩:=info_parts ZcC;have h1:=Zap Tryz.underlying30 hi0 (some ⟨b,0,none⟩) n capw p' (by omega) w;rw[hz1,Ze5,if_neg (by omega),Nat.zero_add] at h1;exact h1
  obtain⟨L,hL⟩: ∃L,L=Zav ((rowsOf (loPl c sec g) g.nd).take k) (List.replicate n 0):=⟨_,rfl⟩
  have HNX:=ZZ (show Zav ((rowsOf (loPl c sec g) g.nd).take (k+1)) (List.replicate n 0)=ZaS L p' (rowW (loPl c sec g) d) by
   rw[List.take_add_one,ZfN hz hd];show Zav (_++[_]) _=_
   rw[ZcF, ← hL,Int.toNat_natCast])
  have hLn:L.length=n:=by rw[hL];exact HWO.out.wr_len k
  have hbw:B≤wr.heap.size:=Yh HI.out.size OW.out.size
  have HWR:=ZZ (Zoc (loPl c sec g) d (.slice Ff d.fs.length ff) (.slice Fq d.rs.length fq) (.slice (some ⟨bp,op,none⟩) N kv) L p' n capw b W2.heap.size W2.heap.size Y0.drew hLn (by omega) (by omega) hfit (HWO.out.may d (Yn hd)) (HWO.out.lead d (Yn hd)) (Zb (by rw[hL];exact HRW.out) OYD.out fun _ _=>id) (by omega) ⟨(hnd'.fields.below (OYD.out.below hbw fun _ h=>h.elim)).more (Yh HI.out.size O2.out.size),(hnd'.raws.below (OYD.out.below hbw fun _ h=>h.elim)).more (Yh HI.out.size O2.out.size)⟩ (by
   have h1:=PVR.out;rw[HPN.out] at h1 ⊢
   exact h1.below (OYD.out.below (by have:=N4.out.size;have:=O5.out.size;have:=HO.out.size;omega) fun _ h=>h.elim)) (HI.out.par.old (OW.out.trans OYD.out)) (by have:=N4.out.size;have:=O5.out.size;have:=HO.out.size;have:=OYD.out.size;omega))
  have BQ:=ZZ (((B5.out.keep HO.out fun e=>by unfold isb at e;omega).keep OY.out id))
  have hbp2:bp<b:=by omega
  have hnbb:b<nb:=by rw[hnb];exact(Zr HRW.out (k:=b) rfl).2
  obtain⟨kd,hkd⟩: ∃z,z=d.kd:=⟨_,rfl⟩
  rw[← hkd] at HY0 BY HWR q0
  have hkp:(k:Int)<(N:Int):=by omega
  have hp0:(0:Int)≤(p':Int):=by omega
  have hp1:(p':Int)≤(n:Int):=by omega
  clear hY0 hnb hd hz hh hnd' hkd hL hLn hfit hPV
  go_upto_region 9 with fail
  rw[HY0.out, ← HNB.out];clear q0 q1 q2;have q0:Y0.cell? ⟨nb,0,none⟩=some (.int .i64 kd):=BY.out.cell 0;have q1:Y0.cell? ⟨nb,1,none⟩=some (.slice Ff d.fs.length ff):=BY.out.cell 1;have q2:Y0.cell? ⟨nb,2,none⟩=some (.slice Fq d.rs.length fq):=BY.out.cell 2;have s5:Y0.cell? ⟨q,5,none⟩=some (.slice (some ⟨b,0,none⟩) n capw):=BQ.out.cell 5;have z1:=OY.out.keeps z0;have hkb: ∀(bl o:Nat) (v:Value),bl≠b→Y0.cell? ⟨bl,o,none⟩=some v→ ∀W',Only (isb b) Y0.drew W'→W'.cell? ⟨bl,o,none⟩=some v:=fun bl o v hne hc W' oo=>(oo.cell (p:=⟨bl,o,none⟩) (World.block_lt_of_cell? Y0 ⟨bl,o,none⟩ hc) hne).trans hc;have HKB:=ZZ hkb;clear z0 hkb
  go_region_held3 (fun w'=>w'.cell? ⟨q,5,none⟩=some (.slice (some ⟨b,0,none⟩) n capw)∧w'.cell? ⟨nb,0,none⟩=some (.int .i64 kd)∧w'.cell? ⟨nb,1,none⟩=some (.slice Ff d.fs.length ff)∧w'.cell? ⟨nb,2,none⟩=some (.slice Fq d.rs.length fq)∧w'.cell? ⟨bp,op+k,none⟩=some (.int .i64 (p':Int))) (first|go_keep|exact C1.out)
   ((go_at_call 21;refine HWR.out.mono ?_;rintro e Y2 ⟨rfl,hown2,o2⟩;have R2':=ZZ hown2;have O2':=ZZ o2;have C1:=ZZ (And.intro (HKB.out _ _ _ (by omega) s5 _ o2) (And.intro (HKB.out _ _ _ (by omega) q0 _ o2) (And.intro (HKB.out _ _ _ (by omega) q1 _ o2) (And.intro (HKB.out _ _ _ (by omega) q2 _ o2) (HKB.out _ _ _ (by omega) z1 _ o2)))));clear hown2 o2))
  clear s5 q0 q1 q2 z1;go_wp2
  go_roundw
  case rel=>
   refine⟨k+1,by omega,by go_num,?_,?_⟩
   · rw[HNX.out];exact R2'
   · exact ZZ ((HO.out.andThen OYD.out fun _ _ h=>h.elim).trans O2'.out)
  case measure=>simp[RowKit.intOf];omega
 case neg=>
 obtain rfl:k=N:=by omega
 obtain⟨W6,rfl⟩: ∃x:World,x=wr:=⟨_,rfl⟩
 have O6:=ZZ OW.out
 have SR6:=ZZ (Zb SR5.out HO.out fun i e e2=>by
  rcases WR5.out.2 with⟨e3, -⟩|⟨g3,cap3,cur3,e3, -,hg3, -⟩
  · cases e3
  · unfold isb at e2
    have e4:b=g3:=by have:=e3;simp only[Value.slice.injEq,Option.some.injEq,Addr.mk.injEq,and_true] at this;exact this.1
    exact Zd SR5.out (show Blk W5 g3 57 cur3 from hg3) (by decide) i e (e2.trans e4))
 have B6:=ZZ (B5.out.keep HO.out fun e=>by unfold isb at e;omega);have R6:=ZZ (R5.out.keep HO.out fun e=>by unfold isb at e;omega);have G6:=ZZ (G5.out.keep HO.out fun e=>by unfold isb at e;omega)
 have WR6:=ZZ (show W6.ownsRow W2.heap.size 57 1 (.slice (some ⟨b,0,none⟩) n capw) n (u64s (loW c sec g)) from by
  have e:loW c sec g=Zav ((rowsOf (loPl c sec g) g.nd).take k) (List.replicate n 0):=by
   have e2:(rowsOf (loPl c sec g) g.nd).take k=rowsOf (loPl c sec g) g.nd:=List.take_of_length_le (by rw[ZeN (pl:=loPl c sec g) (Zbo ..),HN.out];exact Yi _);rw[e2,HNM.out.1];rfl
  rw[e]
  exact HRW.out)
 obtain⟨M,hM⟩: ∃M,M=g.rt.length:=⟨_,rfl⟩
 have HM:=ZZ hM
 have g1:W6.cell? ⟨p+1,1,none⟩=some (.slice Ar M cr):=by rw[HM.out];exact G6.out.cell 1
 have hMm:M≤m:=by rw[hM];have:=HOK.out.slots;have:=HNM.out.2;omega
 rw[← hM] at hacr
 have hMc:M≤1000:=by rw[hM];exact HI.out.roots
 clear hM HRW
 go_wp2_with fail
 clear g1
 go_loopw [67] (fun vi wx=> ∃k:Nat,k≤M∧vi=.int .i64 k∧Hid (wx.ownsRow W2.heap.size 63 3 (.slice (some ⟨sb,0,none⟩) m caps) m (slc (slN c sec g m k)))∧Hid (Only (isb sb) W6 wx)) (fun vi _=>M - (RowKit.intOf vi).toNat)
 case atStart=>
  refine⟨0,Yt _,rfl,ZZ ?_,ZZ (Only.refl _ _)⟩;have h1:=SR6.out;unfold slN;simpa using h1
 case round=>
 obtain⟨j,hj,rfl,HRS,HOS⟩:=hrel;have OWS:=ZZ (show Only nob w wr from O6.out.andThen HOS.out fun i hi e=>by unfold isb at e;have:=O2.out.size;omega);have PVS:=ZZ (PVR.out.below (HOS.out.below (by have:=hqq;have:=N4.out.size;have:=O5.out.size;have:=HO.out.size;omega) fun i e=>by unfold isb at e;omega));have BS:=ZZ (B6.out.keep HOS.out fun e=>by unfold isb at e;omega);by_cases hlt2:j<M
 case pos=>
  obtain⟨v,hv⟩: ∃x,g.rt[j]? =some x:=⟨_,Ya (by rw[← HM.out];exact hlt2)⟩
  have hRT:=HI.out.rd.roots;rw[← HM.out] at hRT;obtain⟨br,or_,hAr,hbr,v0,v1⟩:=Zy (l:=g.rt) (by rw[← HM.out];exact hRT) (OWS.out.below HI.out.size fun _ h=>h.elim) hv;subst hAr
  have hvk:v.1=2→0≤v.2∧v.2<((loPl c sec g).length:Int):=fun h2=>by
   obtain⟨i,h3,h4, -⟩:=(HOK.out.tgt ((ZO.1 HOK.out.may).2 v (Yn hv))).2.1 h2
   have:(loPl c sec g).length=g.nd.length:=Zbo ..
   omega
  obtain⟨Y0,hY0,HBY⟩:=ZbA wr v.1 v.2;have HY0:=ZZ hY0
  obtain⟨vb,hvb⟩: ∃z,z=wr.heap.size:=⟨_,rfl⟩
  have HVB:=ZZ hvb;have BV:=ZZ HBY.out.2;rw[← hvb] at BV;have OV:=ZZ HBY.out.1
  have hW2w:W2.heap.size≤wr.heap.size:=by have:=hqq;have:=N4.out.size;have:=O5.out.size;have:=HO.out.size;have:=HOS.out.size;omega
  have HWD:=ZZ (fun (W:World) (o:Only nob wr W)=>ZmO (loPl c sec g) v (.slice Pv k kv) W2.heap.size W (by
   have h1:=PVS.out.below (o.below hW2w fun _ h=>h.elim);rw[HPN.out] at h1 ⊢
   exact h1) (Yh hW2w o.size) hvk)
  have HNX:=ZZ (Zi7 (c:=c) (sec:=sec) (m:=m) hv (by omega));have HAT:=ZZ (ZmJ (c:=c) (sec:=sec) (g:=g) (m:=m) (k:=j) (by have:=HM.out;omega) (by omega));have HLN:=ZZ (ZkP (c:=c) (sec:=sec) (g:=g) (m:=m) (k:=j) (by have:=HM.out;omega) (by omega))
  obtain⟨y,hy⟩: ∃y,y=ZbK (loPl c sec g) v:=⟨_,rfl⟩
  rw[← hy] at HWD HNX;have s9:Y0.cell? ⟨q,9,none⟩=some (.slice (some ⟨sb,0,none⟩) m caps):=(BS.out.keep OV.out id).cell 9;have e0:Y0.cell? ⟨vb,0,none⟩=some (.int .i64 v.1):=BV.out.cell 0;have e1:Y0.cell? ⟨vb,1,none⟩=some (.int .i64 v.2):=BV.out.cell 1
  have hvbq:sb<vb:=by rw[hvb];exact(Zr HRS.out (k:=sb) rfl).2
  have hjm:j<m:=by omega
  clear hy hv hY0 hvb hvk hRT
  go_upto_region 14 with fail
  rw[HY0.out, ← HVB.out];clear v0 v1;have O0:=ZZ (show Only nob Y0 Y0.drew from(Only.refl nob Y0).drewN 1);refine wp_region_held_drew (S:=fun w':World=>w'.cell? ⟨q,9,none⟩=some (.slice (some ⟨sb,0,none⟩) m caps)∧w'.cell? ⟨vb,0,none⟩=some (.int .i64 v.1)∧w'.cell? ⟨vb,1,none⟩=some (.int .i64 v.2)) (by kernel_rfl) ?_ (fun hHeld=>?_)
  · exact⟨s9,e0,e1⟩
  revert O0 hHeld;generalize Y0.drew=Y;intro O hHeld;refine wpAnyH_take (i:=0) (v:=?_) rfl (by kernel_rfl) (by kernel_rfl) (by kernel_rfl) (fun _ _ _ h=>h) (Or.inl ⟨by rfl,?_⟩) hHeld ?_;rotate_left
  · intro w hSw;(try dsimp only at hSw);go_simp;first|done|with_reducible rfl
  try simp only[Act.put,Yb,Yd,Yc,Yg,Ye,Yf]
  refine wpAnyH_take (i:=1) (v:=?_) rfl (by kernel_rfl) (by kernel_rfl) (by kernel_rfl) (fun _ _ _ h=>h) (Or.inl ⟨by rfl,?_⟩) hHeld ?_;rotate_left
  · intro w hSw;(try dsimp only at hSw);go_simp;first|done|with_reducible rfl
  try simp only[Act.put,Yb,Yd,Yc,Yg,Ye,Yf]
  refine wpAnyH_take (i:=2) (v:=?_) rfl (by kernel_rfl) (by kernel_rfl) (by kernel_rfl) (fun _ _ _ h=>h) (Or.inl ⟨by rfl,?_⟩) hHeld ?_;rotate_left
  · intro w hSw;(try dsimp only at hSw);go_simp;first|done|with_reducible rfl
  try simp only[Act.put,Yb,Yd,Yc,Yg,Ye,Yf]
  refine wpAnyH_take (i:=3) (v:=?_) rfl (by kernel_rfl) (by kernel_rfl) (by kernel_rfl) (fun _ _ _ h=>h) (Or.inl ⟨by rfl,?_⟩) hHeld ?_;rotate_left
  · intro w hSw;(try dsimp only at hSw);go_simp;first|done|with_reducible rfl
  try simp only[Act.put,Yb,Yd,Yc,Yg,Ye,Yf]
  refine wpAnyH_take (i:=4) (v:=?_) rfl (by kernel_rfl) (by kernel_rfl) (by kernel_rfl) (fun _ _ _ h=>h) (Or.inl ⟨by rfl,?_⟩) hHeld ?_;rotate_left
  · intro w hSw;(try dsimp only at hSw);go_simp;first|done|with_reducible rfl
  try simp only[Act.put,Yb,Yd,Yc,Yg,Ye,Yf]
  refine wpAnyH_ready (rs:=[5]) (by kernel_rfl) (by simp) (AllReadyH.cons rfl (fun K hK=>?_) AllReadyH.nil);go_simp;go_at_call 22;refine(HWD.out _ (OV.out.trans O.out)).mono ?_;rintro e Y ⟨rfl,o⟩;have O:=ZZ (O.out.trans o);clear o;refine hK.out _ _ ⟨O.out.keeps s9,O.out.keeps e0,O.out.keeps e1⟩ (fun hHeld2=>?_);clear hK K hHeld;have hHeld:=hHeld2;clear hHeld2
  try simp only[Act.put,Yb,Yd,Yc,Yg,Ye,Yf]
  refine wpAnyH_take (i:=6) (v:=?_) rfl (by kernel_rfl) (by kernel_rfl) (by kernel_rfl) (fun _ _ _ h=>h) (Or.inl ⟨by rfl,?_⟩) hHeld ?_;rotate_left
  · intro w hSw;(try dsimp only at hSw);go_simp;first|done|with_reducible rfl
  try simp only[Act.put,Yb,Yd,Yc,Yg,Ye,Yf]
  refine wpAnyH_take (i:=7) (v:=?_) rfl (by kernel_rfl) (by kernel_rfl) (by kernel_rfl) (fun _ _ _ h=>h) (Or.inl ⟨by rfl,?_⟩) hHeld ?_;rotate_left
  · intro w hSw;(try dsimp only at hSw);go_simp;first|done|with_reducible rfl
  try simp only[Act.put,Yb,Yd,Yc,Yg,Ye,Yf]
  refine wpAnyH_ready (rs:=[8]) (by kernel_rfl) (by simp) (AllReadyH.cons rfl (fun K hK=>?_) AllReadyH.nil);have hrow:=Zb HRS.out (OV.out.trans O.out) fun _ _=>id;obtain⟨⟨⟨t0,t1,t2⟩,f0,f1,f2⟩,hZZ⟩:=ZcL hrow HLN.out HAT.out (true,0,y);have HZZ:=ZZ hZZ;clear hZZ;simp only at t0 t1 t2;go_simp;obtain⟨Z,hZ,RZ,oZ⟩:=HZZ.out;simp only at hZ
  with_reducible rw[hZ]
  have hkz: ∀(bl o:Nat) (v:Value),bl≠sb→Y0.cell? ⟨bl,o,none⟩=some v→Z.cell? ⟨bl,o,none⟩=some v:=fun bl o v hne hc=>(oZ.cell (p:=⟨bl,o,none⟩) (World.block_lt_of_cell? Y ⟨bl,o,none⟩ (O.out.keeps hc)) hne).trans (O.out.keeps hc);have hz:=hkz q 9 _ (by omega) s9;have hz0:=hkz vb 0 _ (by omega) e0;have hz1:=hkz vb 1 _ (by omega) e1;have RZ':=ZZ (show Z.ownsRow W2.heap.size 63 3 (.slice (some ⟨sb,0,none⟩) m caps) m (slc (slN c sec g m (j+1))) by rw[← HNX.out];exact RZ);have OZ:=ZZ ((HOS.out.andThen (OV.out.trans O.out) fun _ _ h=>h.elim).trans oZ);clear t0 t1 t2 f0 f1 f2 hZ RZ oZ hkz hrow;refine hK.out _ _ ⟨hz,hz0,hz1⟩ (fun hHeld2=>?_);clear hK K hHeld hz hz0 hz1 s9 e0 e1;refine wpAnyH_done (by kernel_rfl) ?_ _;go_wp2
  go_roundw
  case rel=>exact⟨j+1,by omega,by go_num,RZ',OZ⟩
  case measure=>simp[RowKit.intOf];omega
 case neg=>
 obtain rfl:j=M:=by omega
 have R7:=ZZ (R6.out.keep HOS.out fun e=>by unfold isb at e;omega);obtain⟨z0,z1,z2,z3,z4,z5,z6,z7,z8,z9⟩:=Zg BS.out;obtain⟨s0,s1,s2,s3,s4,s5,s6,s7,s8,s9⟩:=Zg R7.out;obtain⟨f0,f1,f2,f3,f4,f5,f6,f7,f8,f9⟩:=Zv R7.out
 go_wp2_with fail
 clear s0 s1 s2 s3 s4 s5 s6 s7 s8 s9 f0 f1 f2 f3 f4 f5 f6 f7 f8 f9 z0 z1 z2 z3 z4 z5 z6 z7 z8 z9;obtain⟨W9,hW9,o9,q9,B9⟩:=Z6 OWS.out (by have:=HP.out;omega) R7.out (.int .i64 c.semi) (.int .i64 c.large) (.int .i64 c.slots) (.int .i64 c.limit) (.bool sec) (.slice (some ⟨b,0,none⟩) n capw) (.int .i64 T) (.slice At nt ct) (.slice Av nf cv) (.slice (some ⟨sb,0,none⟩) m caps)
 with_reducible rw[hW9]
 obtain⟨h0,h1,h2,h3,h4,h5,h6,h7,h8,h9⟩:=Zg B9;have bl7:Below W2.heap.size W2 wr:=((N4.out.below (Yi _) fun _ h=>h.elim).trans (O5.out.below N4.out.size fun k e=>by unfold isb at e;omega)).trans ((HO.out.below (by have:=N4.out.size;have:=O5.out.size;omega) fun k e=>by unfold isb at e;omega).trans (HOS.out.below (by have:=N4.out.size;have:=O5.out.size;have:=HO.out.size;omega) fun k e=>by unfold isb at e;omega));have t1:=TV2.out.below bl7;have t2:=FV2.out.below bl7;have t3:wr.ownsRow W2.heap.size 57 1 (.slice (some ⟨b,0,none⟩) n capw) n (u64s (loW c sec g)):=Zb WR6.out HOS.out fun i e e2=>Zbp WR6.out SR6.out (by decide) i e (by unfold isb at e2;rw[e2];rfl);have t4:=HRS.out;have u3:=Zb t3 q9 (Zd t3 R7.out (by decide));have u4:=Zb t4 q9 (Zd t4 R7.out (by decide));have hwm:W2.heap.size≤wr.heap.size:=Yh N4.out.size (Yh O5.out.size (Yh HO.out.size HOS.out.size));rw[HNT.out.1] at t1;rw[HNT.out.2] at t2;have u1:=ZeM HOK.out.tb_nz t1 R7.out q9 hwm;have u2:=ZeM (l:=frL (loB c+sBg c g.nd) (ZD c)) (fun x hx=>Zoi (k:=g.nd.length) HOK.out.ok HOK.out.szs (by rw[List.take_length];exact HOK.out.big) x (by unfold loFr;rw[List.take_length];exact hx)) t2 R7.out q9 hwm;rw[← HNT.out.1] at u1;rw[← HNT.out.2] at u2
 (try simp only[Exit.inBlock,Exit.then])
 refine bodyPost_ret (v:=.tuple #[.agg #[.int .i64 c.semi,.int .i64 c.large,.int .i64 c.slots,.int .i64 c.limit,.bool sec,.slice (some ⟨b,0,none⟩) n capw,.int .i64 T,.slice At nt ct,.slice Av nf cv,.slice (some ⟨sb,0,none⟩) m caps],.int .i64 0]) (by simp[results,Tryz.results8,go_sem,h0,h1,h2,h3,h4,h5,h6,h7,h8,h9]) rfl ?_;refine⟨ZaK c sec g,.slice (some ⟨b,0,none⟩) n capw,.slice At nt ct,.slice Av nf cv,.slice (some ⟨sb,0,none⟩) m caps,(ZaO HE.out).1.symm,by rw[HE.out,HT.out];rfl,⟨?_,?_,?_,?_⟩,o9⟩
 · have e:(loW c sec g).length=n:=by have:=u3.1;rw[ZV] at this;omega
   show Sl W9 W9.heap.size 1 _ (loW c sec g).length (u64s (loW c sec g));rw[e];exact Sl.of_own u3 u3.1
 · show Sl W9 W9.heap.size 2 _ (tbL c (loB c) g.nd).length (spc (tbL c (loB c) g.nd))
   rw[← HNT.out.1];exact u1
 · show Sl W9 W9.heap.size 2 _ (frL (loB c+sBg c g.nd) (ZD c)).length (spc (frL (loB c+sBg c g.nd) (ZD c)))
   rw[← HNT.out.2];exact u2
 · have e:slN c sec g m j=Zec c sec g:=by
    unfold slN Zec;rw[HM.out,List.take_length,HNM.out.2]
   rw[e] at u4
   have e2:(Zec c sec g).length=m:=by have:=u4.1;rw[ZaP] at this;omega
   show Sl W9 W9.heap.size 3 _ (Zec c sec g).length (slc (Zec c sec g));rw[e2];exact Sl.of_own u4 u4.1
theorem Zkq:LoC:=⟨ZnY,Zg6,ZoM⟩
end Go.Proofs.YtknoncenblehkaaGreatDoor
