/- Package lower: where nodes stand, and what room they take. -/
import Derived.Test.YtknoncenblehkaaGreatDoorG41
set_option maxRecDepth 100000
set_option maxHeartbeats 32000000
set_option linter.unusedSimpArgs false
set_option linter.unusedVariables false
namespace Go.Proofs.YtknoncenblehkaaGreatDoor
open Go.RowKit Go.Lib
theorem ZnU (w:World) (c:Cf) (vn vr:Value): ∃W,((w.alloc (.cells #[.int .i64 c.semi,.int .i64 c.large,.int .i64 c.slots,.int .i64 c.limit] 23)).alloc (.cells #[vn,vr] 27)).alloc (.cells #[.int .i64 0,.int .i64 0,.int .i64 0,.int .i64 0,.int .i64 0,.int .i64 0,.int .i64 0,.slice none 0 0,.slice none 0 0] 65)=W∧Hid (Only nob w W∧CBox W w.heap.size c∧Blk W (w.heap.size+1) 27 #[vn,vr]∧Blk W (w.heap.size+1+1) 65 #[.int .i64 0,.int .i64 0,.int .i64 0,.int .i64 0,.int .i64 0,.int .i64 0,.int .i64 0,.slice none 0 0,.slice none 0 0]):=by
 obtain⟨W,hW,HB⟩:=Zdh w c vn vr;rw[hW]
 have hs:W.heap.size=w.heap.size+1+1:=by rw[← hW];simp
 have hn:Only nob W (W.alloc (.cells #[.int .i64 0,.int .i64 0,.int .i64 0,.int .i64 0,.int .i64 0,.int .i64 0,.int .i64 0,.slice none 0 0,.slice none 0 0] 65)):=(Only.refl nob W).alloc _;refine⟨_,rfl,ZZ ⟨HB.out.1.trans hn,HB.out.2.1.keep hn,HB.out.2.2.keep hn id,?_⟩⟩;have h:=Blk.new W 65 #[.int .i64 0,.int .i64 0,.int .i64 0,.int .i64 0,.int .i64 0,.int .i64 0,.int .i64 0,.slice none 0 0,.slice none 0 0]
 rwa [hs] at h
theorem Zcm (w:World) (cs:Array Value): ∃W,w.alloc (.cells cs 65)=W∧Hid (Only nob w W∧Blk W w.heap.size 65 cs):=⟨_,rfl,ZZ ⟨(Only.refl nob w).alloc _,Blk.new _ _ _⟩⟩
theorem Zoi {c:Cf} {ds:List Nd} {k:Nat} (h:c.ok) (hz:ZcJ ds) (hb0:loB c+sBg c (ds.take k)≤ZD c): ∀x∈loFr c ds k,x.1≠0:=fun x hx=>by
 have hl:=Zas (c:=c) hz k;have hg:=Zay h;have h':=h;unfold Cf.ok at h';unfold loFr frL at hx
 split at hx
 · cases hx
 · rw[Ys.1 hx]
   simp only;omega
def Zow (c:Cf) (sec:Bool) (g:Gr) (w:World) (e:Ending) (w':World):Prop:=
 (loE c sec g=0→ ∃tv fv pv,e=.returned (.tuple #[.agg #[.int .i64 c.semi,.int .i64 c.large,.int .i64 c.slots,.int .i64 c.limit,.int .i64 (Zj c sec).1,.int .i64 (Zj c sec).2,.int .i64 (loT c sec+sSm c g.nd),tv,fv],pv,.int .i64 0])∧
   Sl w' w'.heap.size 2 tv (tbL c (loB c) g.nd).length (spc (tbL c (loB c) g.nd))∧Sl w' w'.heap.size 2 fv (frL (loB c+sBg c g.nd) (ZD c)).length (spc (frL (loB c+sBg c g.nd) (ZD c)))∧Sl w' w'.heap.size 1 pv (loPl c sec g).length (i64s (loPl c sec g)))∧
 (loE c sec g≠0→e=.returned (.tuple #[.agg #[.int .i64 0,.int .i64 0,.int .i64 0,.int .i64 0,.int .i64 0,.int .i64 0,.int .i64 0,.slice none 0 0,.slice none 0 0],.slice none 0 0,.int .i64 (loE c sec g)]))∧Only nob w w'
theorem ZjT (c:Cf) (sec:Bool) (g:Gr) (vn vr:Value) (hs:List (Value×Value)) (B:Nat) (w:World) (h:In20 w B c g vn vr hs):
 Calls Tryz.prog 19 #[.agg #[.int .i64 c.semi,.int .i64 c.large,.int .i64 c.slots,.int .i64 c.limit],.bool sec,.agg #[vn,vr]] w (Zow c sec g w):=by
 obtain⟨A,cn,rfl,hac,hcm⟩:=h.rd.nodes.form;obtain⟨Ar,cr,rfl,hacr,hcmr⟩:=h.rd.roots.form;unfold maxLen at hcm hcmr;obtain⟨W,hW,HB⟩:=ZnU w c (.slice A g.nd.length cn) (.slice Ar g.rt.length cr);have HW:=ZZ hW
 obtain⟨p,hp⟩: ∃p,p=w.heap.size:=⟨_,rfl⟩
 have HP:=ZZ hp;rw[← hp] at HB;have HI:=ZZ h;have HCK:=ZZ (ZnI c g _ _ hs B W (h.keep HB.out.1));obtain⟨c0,c1,c2,c3⟩:=HB.out.2.1;have g0:W.cell? ⟨p+1,0,none⟩=some (.slice A g.nd.length cn):=HB.out.2.2.1.cell 0;have g1:W.cell? ⟨p+1,1,none⟩=some (.slice Ar g.rt.length cr):=HB.out.2.2.1.cell 1
 obtain⟨q,hq⟩: ∃q,q=ZiV c g:=⟨_,rfl⟩
 rw[← hq] at HCK;have HQ:=ZZ hq;clear hW hp h hq
 go_enter Tryz.func19,Tryz.ntmps19
 go_upto_region 1 with fail
 rw[HW.out, ← HP.out]
 go_wp2_with fail
 go_at_call 48;refine HCK.out.mono ?_;rintro e w1 ⟨rfl,o⟩;have O1:=ZZ (HB.out.1.trans o);have X1:=ZZ (HB.out.2.1.keep o);have G1:=ZZ (HB.out.2.2.1.keep o id);have R1:=ZZ (HB.out.2.2.2.keep o id);clear o c0 c1 c2 c3 g0 g1;by_cases hq0:q=0
 case neg=>
  have HE:=ZZ (show loE c sec g=q from(Zm6 (by rw[← HQ.out];exact hq0)).trans HQ.out.symm);have HNE:=ZZ hq0
  have hqb:(q !=0)=true:=by simpa using hq0
  obtain⟨s0,s1,s2,s3,s4,s5,s6,s7,s8⟩:=ZJ R1.out;obtain⟨f0,f1,f2,f3,f4,f5,f6,f7,f8⟩:=ZbE R1.out
  go_wp2_with fail
  clear s0 s1 s2 s3 s4 s5 s6 s7 s8 f0 f1 f2 f3 f4 f5 f6 f7 f8;obtain⟨W9,hW9,o9, -,B9⟩:=ZgX O1.out (by have:=HP.out;omega) R1.out (.int .i64 0) (.int .i64 0) (.int .i64 0) (.int .i64 0) (.int .i64 0) (.int .i64 0) (.int .i64 0) (.slice none 0 0) (.slice none 0 0)
  with_reducible rw[hW9]
  obtain⟨h0,h1,h2,h3,h4,h5,h6,h7,h8⟩:=ZJ B9
  (try simp only[Exit.inBlock,Exit.then])
  refine bodyPost_ret (v:=.tuple #[.agg #[.int .i64 0,.int .i64 0,.int .i64 0,.int .i64 0,.int .i64 0,.int .i64 0,.int .i64 0,.slice none 0 0,.slice none 0 0],.slice none 0 0,.int .i64 q]) (by simp[results,Tryz.results19,go_sem,h0,h1,h2,h3,h4,h5,h6,h7,h8]) rfl ?_;exact⟨fun h=>absurd (HE.out.symm.trans h) HNE.out,fun _=>by rw[HE.out],o9⟩
 case pos=>
 subst hq0;obtain⟨hok,hgo,hsl⟩:=Zkj HQ.out.symm;have HOK:=ZZ (And.intro hok (And.intro hgo hsl));have HEM:=ZZ (Zna c sec g.nd w1 HI.out.cfit hok);clear hok hgo hsl;obtain⟨c0,c1,c2,c3⟩:=X1.out
 go_wp2_with fail
 go_at_call 49;refine HEM.out.mono ?_;rintro e w2 ⟨Af,kf,rfl,hfr,o⟩;obtain⟨W3,hW3,HB3⟩:=Zcm w2 #[.int .i64 c.semi,.int .i64 c.large,.int .i64 c.slots,.int .i64 c.limit,.int .i64 (Zj c sec).1,.int .i64 (Zj c sec).2,.int .i64 ((Zj c sec).1),.slice none 0 0,.slice Af (loFr c g.nd 0).length kf];have HW3:=ZZ hW3
 obtain⟨rb,hrb⟩: ∃b,b=w2.heap.size:=⟨_,rfl⟩
 have HRB:=ZZ hrb;have N3:=ZZ (o.trans HB3.out.1);have O3:=ZZ (O1.out.trans N3.out);have R3:=ZZ (R1.out.keep N3.out id);have B3:=ZZ HB3.out.2;rw[← hrb] at B3;have g0:W3.cell? ⟨p+1,0,none⟩=some (.slice A g.nd.length cn):=(G1.out.keep N3.out id).cell 0
 have hpr:p+1+1<rb:=by rw[hrb];exact Yv R1.out.lt o.size
 have RM3:=ZZ (show Rm W3 rb c sec g.nd 0 (.slice none 0 0) (.slice Af (loFr c g.nd 0).length kf) from⟨by simpa[loT,sSm] using B3.out,World.ownsRow_nil _ _ _ _,.inl (by rw[hrb];exact hfr.below HB3.out.1.whole)⟩);clear c0 c1 c2 c3 hfr o hW3 hrb
 go_upto_region 5 with fail
 rw[HW3.out, ← HRB.out]
 obtain⟨N,hN⟩: ∃N,N=g.nd.length:=⟨_,rfl⟩
 have HN:=ZZ hN;rw[← hN] at hac g0
 have hbase:w.heap.size≤rb:=by have:=HP.out;omega
 have HPL0:=ZZ (show W3.ownsRow rb 3 1 (.slice none 0 0) 0 (i64s (plL c (loT c sec) (loB c) (g.nd.take 0))) from World.ownsRow_nil _ _ _ _);have hnd:=HI.out.nodes;rw[← hN] at hnd;clear hN;obtain⟨j0,hj0,hy0,hy1,hy2⟩:=info_parts Zcq
 go_wp2_with fail
 clear g0
 go_loopw [11,29] (fun pv vi wr=> ∃(k:Nat) (tv fv:Value),k≤N∧vi=.int .i64 k∧Hid (Zw c sec g.nd k)∧Hid (wr.ownsRow rb 3 1 pv k (i64s (plL c (loT c sec) (loB c) (g.nd.take k))))∧Hid (Rm wr rb c sec g.nd k tv fv)∧Hid (Blk wr (p+1+1) 65 #[.int .i64 0,.int .i64 0,.int .i64 0,.int .i64 0,.int .i64 0,.int .i64 0,.int .i64 0,.slice none 0 0,.slice none 0 0])∧Hid (Only nob w wr)) (fun _ vi _=>N - (RowKit.intOf vi).toNat)
 case atStart=>exact⟨0,_,_,Yt _,rfl,ZZ (Zem HOK.out.1),HPL0,RM3,R3,O3⟩
 case round=>
 obtain⟨k,tv,fv,hk,rfl,HRO,HPV,HRM,HRZ,HO⟩:=hrel;obtain⟨Pv,cv,hpv,hpc,hpm⟩:=Zl HPV.out;subst hpv;by_cases hlt:k<N
 case pos=>
  obtain⟨d,hd⟩: ∃x,g.nd[k]? =some x:=⟨_,Ya (by rw[← HN.out];exact hlt)⟩
  obtain⟨bb,oo,fv',rv',hA,hbb,hh,q0,q1,q2,hnd'⟩:=HI.out.rd.at_ (HO.out.below HI.out.size fun _ h=>h.elim) hd;subst hA;obtain⟨Ff,ff,hff, -, -⟩:=hnd'.fields.form;obtain⟨Fq,fq,hfq, -, -⟩:=hnd'.raws.form;simp only at hff hfq;subst hff hfq;obtain⟨Y0,hY0,HBY⟩:=ZaA wr d.kd (.slice Ff d.fs.length ff) (.slice Fq d.rs.length fq);have HY0:=ZZ hY0
  obtain⟨nb,hnb⟩: ∃z,z=wr.heap.size:=⟨_,rfl⟩
  have HNB:=ZZ hnb;have BY:=ZZ HBY.out.2.1;rw[← hnb] at BY;have OY:=ZZ HBY.out.1;have HSZ:=ZZ (ZiZ d (.slice Ff d.fs.length ff,.slice Fq d.rs.length fq) B Y0 (hnd'.below (OY.out.below (Yh HI.out.size HO.out.size) fun _ h=>h.elim)));have HTK:=ZZ (fun (W:World) (o:Only nob Y0 W)=>ZoD HOK.out.1 HI.out.cfit (Zht HOK.out.2.1) HI.out.nodes hd HRO.out (HRM.out.keep (OY.out.trans o)))
  obtain⟨n,hn⟩: ∃n,n=ndSz d:=⟨_,rfl⟩
  rw[← hn] at HSZ HTK
  obtain⟨kd,hkd⟩: ∃z,z=d.kd:=⟨_,rfl⟩
  rw[← hkd] at HY0 BY HSZ q0;clear hn hkd hY0 hnb hd hh hnd'
  go_upto_region 9 with fail
  rw[HY0.out, ← HNB.out];clear q0 q1 q2;have q0:Y0.cell? ⟨nb,0,none⟩=some (.int .i64 kd):=BY.out.cell 0;have q1:Y0.cell? ⟨nb,1,none⟩=some (.slice Ff d.fs.length ff):=BY.out.cell 1;have q2:Y0.cell? ⟨nb,2,none⟩=some (.slice Fq d.rs.length fq):=BY.out.cell 2
  go_wp2_with fail
  go_at_call 51;refine HSZ.out.mono ?_;rintro e Y1 ⟨rfl,o⟩;have OY1:=ZZ (OY.out.trans o);have HTK:=ZZ (HTK.out Y1 o);clear o q0 q1 q2
  go_wp2_with fail
  go_at_call 50;refine HTK.out.mono ?_;intro e Y2 HT;have HT:=ZZ HT;have R1':=ZZ (HRM.out.keep OY1.out);have P1':=ZZ (Zb HPV.out OY1.out fun _ _=>id);have Z1':=ZZ (HRZ.out.keep OY1.out id)
  have HBF: ∀i,RmF rb tv i→w.heap.size≤i:=fun i h=>by
   rcases h with rfl|h
   · exact hbase
   · exact Yh hbase (Zr HRM.out.tab h).1
  have O2:=ZZ (show Only nob w Y2 from(HO.out.trans OY1.out).andThen HT.out.2.2 fun i hi h=>by have:=HBF i h;omega);have P2:=ZZ (Zb P1'.out HT.out.2.2 fun q hq h=>h.elim (fun e=>Zd P1'.out R1'.out.blk (by decide) q hq e) (fun e=>Zbp P1'.out R1'.out.tab (by decide) q hq e));have Z2:=ZZ (Z1'.out.keep HT.out.2.2 fun h=>h.elim (fun e=>by omega) (fun e=>Zd R1'.out.tab Z1'.out (by decide) _ e rfl));by_cases hr:Zw c sec g.nd (k+1)
  case pos=>
   obtain⟨z,tv',fv2,rfl,hpl,hrm⟩:=HT.out.1 hr;have HR2:=ZZ hr;have RM2:=ZZ hrm;have HPL2:=ZZ hpl;clear HT hpl hrm hr;have HQ3:=ZZ (Blk.new Y2 3 #[.int .i64 z])
   go_wp2_with (with_reducible refine Zf (o:=⟨some 46,_,_,_,_,_⟩) _ rfl (.tmp 43) (.tmp 45) _ rfl rb 3 j0 _ 1 8 Tryz.underlying38 hj0 hy0 hy1 hy2 rfl (by decide) (.slice Pv k cv) k (i64s (plL c (loT c sec) (loB c) (g.nd.take k))) rfl ?c7 (Y2.heap.size+1) (.slice (some ⟨Y2.heap.size,0,none⟩) 1 1) 1 (i64s [z]) rfl ?c8 (ZbM _) ?c9 ?c10 ?c11 ?c12)
   case c7=>exact Zb P2.out ((Only.refl nob Y2).alloc _) fun _ _ h=>h
   case c8=>exact(Sl.of_blk (size:=1) (n:=1) (c:=1) HQ3.out rfl (Yi _) (by decide)).more (by simp)
   case c9=>unfold maxLen;omega
   case c10=>omega
   case c11=>have:=RM2.out.size;simp;omega
   case c12=>
   intro v2 w4 H2 o4 hbk;have hn2:Only nob Y2 (Y2.alloc (.cells #[.int .i64 z] 3)):=(Only.refl nob Y2).alloc _;have P3:=ZZ (Zb P2.out hn2 fun _ _=>id);have P4:=ZZ (show w4.ownsRow rb 3 1 v2 (k+1) (i64s (plL c (loT c sec) (loB c) (g.nd.take (k+1)))) by rw[HPL2.out,ZaG];exact H2.out);have O4:=ZZ ((O2.out.trans hn2).andThen o4 fun i hi h=>by have:=(Zr P2.out h).1;omega);have hne1: ¬(Value.slice Pv k cv).ownBlock=some rb:=fun e=>Zd P2.out RM2.out.blk (by decide) _ e rfl;have hne2: ¬(Value.slice Pv k cv).ownBlock=some (p+1+1):=fun e=>Zd P2.out Z2.out (by decide) _ e rfl;have Z4:=ZZ ((Z2.out.keep hn2 id).keep o4 hne2);have R3':=ZZ (RM2.out.keep hn2);have R4:=ZZ (show Rm w4 rb c sec g.nd (k+1) tv' fv2 from R3'.out.keepF o4 (fun i h=>(Zr P3.out h).1) hne1 fun b n v xs hr q hq e=>Zbp hr P3.out (by decide) q hq e);obtain⟨A2,c2',rfl,hk3,hk4⟩:=Zl P4.out;clear H2 o4 hbk hn2 hne1 hne2
   go_wp2_with fail
   go_roundw
   case rel=>exact⟨k+1,tv',fv2,by omega,by go_num,HR2,P4,R4,Z4,O4⟩
   case measure=>simp[RowKit.intOf];omega
  case neg=>
   obtain rfl:=HT.out.2.1 hr;have HE:=ZZ (Zf0 (sec:=sec) HOK.out.1 HOK.out.2.1 (by have:=HOK.out.2.2;omega) fun h=>hr (Ze2 (Zht HOK.out.2.1) (k+1) h));clear HT hr;obtain⟨s0,s1,s2,s3,s4,s5,s6,s7,s8⟩:=ZJ Z2.out;obtain⟨f0,f1,f2,f3,f4,f5,f6,f7,f8⟩:=ZbE Z2.out
   go_wp2_with fail
   clear s0 s1 s2 s3 s4 s5 s6 s7 s8 f0 f1 f2 f3 f4 f5 f6 f7 f8;obtain⟨W9,hW9,o9, -,B9⟩:=ZgX O2.out (by have:=HP.out;omega) Z2.out (.int .i64 0) (.int .i64 0) (.int .i64 0) (.int .i64 0) (.int .i64 0) (.int .i64 0) (.int .i64 0) (.slice none 0 0) (.slice none 0 0)
   with_reducible rw[hW9]
   obtain⟨h0,h1,h2,h3,h4,h5,h6,h7,h8⟩:=ZJ B9
   (try simp only[Exit.inBlock,Exit.then])
   refine bodyPost_ret (v:=.tuple #[.agg #[.int .i64 0,.int .i64 0,.int .i64 0,.int .i64 0,.int .i64 0,.int .i64 0,.int .i64 0,.slice none 0 0,.slice none 0 0],.slice none 0 0,.int .i64 9]) (by simp[results,Tryz.results19,go_sem,h0,h1,h2,h3,h4,h5,h6,h7,h8]) rfl ?_;exact⟨fun h=>(by rw[HE.out] at h;cases h),fun _=>by rw[HE.out],o9⟩
 case neg=>
 obtain rfl:k=N:=by omega
 have HE:=ZZ (show loE c sec g=0 from Zdf HOK.out.1 HOK.out.2.1 (by have:=HOK.out.2.2;omega) (by rw[← HN.out];exact HRO.out));obtain⟨At,ct,htv, -, -⟩:=Zl HRM.out.tab;obtain⟨Av,cv2,hfv, -, -⟩:=HRM.out.freeSl.form;subst htv hfv;obtain⟨z0,z1,z2,z3,z4,z5,z6,z7,z8⟩:=ZJ HRM.out.blk;obtain⟨s0,s1,s2,s3,s4,s5,s6,s7,s8⟩:=ZJ HRZ.out;obtain⟨f0,f1,f2,f3,f4,f5,f6,f7,f8⟩:=ZbE HRZ.out;have HTK:=ZZ (show g.nd.take k=g.nd by rw[HN.out,List.take_length]);have HWR:=ZZ (show p+1+1<wr.heap.size from HRZ.out.lt)
 go_wp2_with fail
 clear s0 s1 s2 s3 s4 s5 s6 s7 s8 f0 f1 f2 f3 f4 f5 f6 f7 f8 z0 z1 z2 z3 z4 z5 z6 z7 z8;obtain⟨W9,hW9,o9,q9,B9⟩:=ZgX HO.out (by have:=HP.out;omega) HRZ.out (.int .i64 c.semi) (.int .i64 c.large) (.int .i64 c.slots) (.int .i64 c.limit) (.int .i64 (Zj c sec).1) (.int .i64 (Zj c sec).2) (.int .i64 (loT c sec+sSm c (g.nd.take k))) (.slice At (tbL c (loB c) (g.nd.take k)).length ct) (.slice Av (loFr c g.nd k).length cv2)
 with_reducible rw[hW9]
 obtain⟨h0,h1,h2,h3,h4,h5,h6,h7,h8⟩:=ZJ B9;have hpr2:p+1+1<rb:=hpr;have T9:=Zb HRM.out.tab q9 (Zd HRM.out.tab HRZ.out (by decide));have P9:=Zb HPV.out q9 (Zd HPV.out HRZ.out (by decide))
 have F9:Sl W9 W9.heap.size 2 (.slice Av (loFr c g.nd k).length cv2) (loFr c g.nd k).length (spc (loFr c g.nd k)):=HRM.out.free.elim (fun e=>ZmG (Zoi HOK.out.1 (Zht HOK.out.2.1) HRO.out.2) e HRZ.out q9 HRM.out.size) fun e=>(by
  have h1:=Zb e.1 q9 (Zd e.1 HRZ.out (by decide))
  exact Sl.of_own h1 h1.1)
 (try simp only[Exit.inBlock,Exit.then])
 refine bodyPost_ret (v:=.tuple #[.agg #[.int .i64 c.semi,.int .i64 c.large,.int .i64 c.slots,.int .i64 c.limit,.int .i64 (Zj c sec).1,.int .i64 (Zj c sec).2,.int .i64 (loT c sec+sSm c (g.nd.take k)),.slice At (tbL c (loB c) (g.nd.take k)).length ct,.slice Av (loFr c g.nd k).length cv2],.slice Pv k cv,.int .i64 0]) (by simp[results,Tryz.results19,go_sem,h0,h1,h2,h3,h4,h5,h6,h7,h8]) rfl ?_;refine⟨fun _=>⟨_,_,_,by rw[HTK.out],?_,?_,?_⟩,fun h=>absurd HE.out h,o9⟩
 · have h1:=Sl.of_own T9 T9.1
   rw[HTK.out] at h1;exact h1
 · have e:frL (loB c+sBg c g.nd) (ZD c)=loFr c g.nd k:=by unfold loFr;rw[HTK.out]
   rw[e];exact F9
 · have h1:=Sl.of_own P9 P9.1
   rw[HTK.out] at h1;have e:(loPl c sec g).length=k:=(Zbo ..).trans HN.out.symm;rw[e];exact h1
end Go.Proofs.YtknoncenblehkaaGreatDoor
