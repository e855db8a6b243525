/- The document's own Lay: where nodes stand. -/
import Derived.Test.YtknoncenblehkaaGreatDoorG39
import Derived.Test.YtknoncenblehkaaGreatDoorG42
set_option maxRecDepth 100000
set_option maxHeartbeats 32000000
set_option linter.unusedSimpArgs false
set_option linter.unusedVariables false
namespace Go.Proofs.YtknoncenblehkaaGreatDoor
open Go.RowKit Go.Lib
theorem Ziv {w W:World} {b:Nat} {t:TypeId} (o:Only nob w W) (hb:w.heap.size≤b) {z0 z1 z2 z3:Value} (B:Blk W b t #[z0,z1,z2,z3]) (x0 x1 x2 x3:Value):
 ∃W4,((((W.setCell ⟨b,0,none⟩ x0).setCell ⟨b,1,none⟩ x1).setCell ⟨b,2,none⟩ x2).setCell ⟨b,3,none⟩ x3)=W4∧Only nob w W4∧Only (isb b) W W4∧Blk W4 b t #[x0,x1,x2,x3]:=by
 refine⟨_,rfl,Zi (Zi (Zi (Zi o hb _) hb _) hb _) hb _,?_,?_⟩
 · exact(((Zc _ b 0 _).trans (Zc _ b 1 _)).trans (Zc _ b 2 _)).trans (Zc _ b 3 _)
 · simpa using(((B.put 0 x0).put 1 x1).put 2 x2).put 3 x3
theorem Zdp {c:Cf} (h:c.ok) (b:Bool):0≤(Zj c b).1+(Zj c b).2∧(Zj c b).1+(Zj c b).2≤65536:=by
 obtain⟨b1,b2,b3,b4,b5⟩:=ZK h b;clear b3;omega
theorem Zo5 {c:Cf} {sec:Bool} {ds:List Nd} {k:Nat} (hc:c.ok) (hz:ZcJ ds) (hr:Zw c sec ds k):0≤loT c sec+sSm c (ds.take k)∧loT c sec+sSm c (ds.take k)≤65536:=by
 have h1:=(Zas (c:=c) hz k).1;have h2:=(Zby (sec:=sec) hc).1;have h3:=hr.1;have h4:ZaX c sec≤65536:=(Zdp hc sec).2;clear hr;omega
theorem ZcO {x:Int} (h0:0≤x) (h1:x≤1000000):IntKind.i64.wrap x=x:=by rw[IntKind.wrap_i64];omega
theorem Zm5 {c:Cf} {ds:List Nd} {k:Nat} (h:c.ok) (hz:ZcJ ds) (hb0:loB c+sBg c (ds.take k)≤ZD c): ∀x∈loFr c ds k,Sp.ok x:=fun x hx=>by
 have hl:=(Zas (c:=c) hz k).2.1;have hb:=Zai h;unfold loFr frL at hx
 split at hx
 · cases hx
 · rw[Ys.1 hx]
   unfold Sp.ok Za6;simp only;omega
theorem Zu {w:World} {b:Nat} {t:TypeId} {x0 x1 x2 x3:Value} (h:Blk w b t #[x0,x1,x2,x3]):w.cell? ⟨b,0,none⟩=some x0∧w.cell? ⟨b,1,none⟩=some x1∧w.cell? ⟨b,2,none⟩=some x2∧w.cell? ⟨b,3,none⟩=some x3:=⟨h.cell 0,h.cell 1,h.cell 2,h.cell 3⟩
theorem Zcl {w:World} {b:Nat} {t:TypeId} {cs:Array Value} (h:Blk w b t cs):w.frozen? ⟨b,0,none⟩=false∧w.frozen? ⟨b,1,none⟩=false∧w.frozen? ⟨b,2,none⟩=false∧w.frozen? ⟨b,3,none⟩=false:=⟨h.free 0,h.free 1,h.free 2,h.free 3⟩
theorem ZnV (w:World) (c:Cf) (vn vr:Value): ∃W,((w.alloc (.cells #[.int .i64 c.semi,.int .i64 c.large,.int .i64 c.slots,.int .i64 c.limit] 23)).alloc (.cells #[vn,vr] 27)).alloc (.cells #[.slice none 0 0,.int .i64 0,.slice none 0 0,.slice none 0 0] 42)=W∧Hid (Only nob w W∧CBox W w.heap.size c∧Blk W (w.heap.size+1) 27 #[vn,vr]∧Blk W (w.heap.size+1+1) 42 #[.slice none 0 0,.int .i64 0,.slice none 0 0,.slice none 0 0]):=by
 obtain⟨W,hW,HB⟩:=Zdh w c vn vr;rw[hW]
 have hs:W.heap.size=w.heap.size+1+1:=by rw[← hW];simp
 have hn:Only nob W (W.alloc (.cells #[.slice none 0 0,.int .i64 0,.slice none 0 0,.slice none 0 0] 42)):=(Only.refl nob W).alloc _;refine⟨_,rfl,ZZ ⟨HB.out.1.trans hn,HB.out.2.1.keep hn,HB.out.2.2.keep hn id,?_⟩⟩;have h:=Blk.new W 42 #[.slice none 0 0,.int .i64 0,.slice none 0 0,.slice none 0 0]
 rwa [hs] at h
theorem ZeZ (w:World) (cs:Array Value): ∃W,w.alloc (.cells cs 42)=W∧Hid (Only nob w W∧Blk W w.heap.size 42 cs):=⟨_,rfl,ZZ ⟨(Only.refl nob w).alloc _,Blk.new _ _ _⟩⟩
def ZpW (c:Cf) (sec:Bool) (g:Gr) (w:World) (e:Ending) (w':World):Prop:= ∃s v vt vf,s=ZmW c sec g∧e=.returned (.tuple #[.agg #[v,.int .i64 s.top,vt,vf],.int .i64 (loE c sec g)])∧Sl w' w'.heap.size 1 v (Zja c sec g).length (i64s (Zja c sec g))∧Sl w' w'.heap.size 2 vt s.tb.length (spc s.tb)∧Sl w' w'.heap.size 2 vf s.fr.length (spc s.fr)∧Only nob w w'
theorem Zdg {c:Cf} {sec:Bool} {g:Gr} {w w':World} {q:Int} (h:loE c sec g≠0) (he:loE c sec g=q) (o:Only nob w w'):ZpW c sec g w (.returned (.tuple #[.agg #[.slice none 0 0,.int .i64 0,.slice none 0 0,.slice none 0 0],.int .i64 q])) w':=by
 obtain⟨h1,h2⟩:=ZcI h;refine⟨noS,.slice none 0 0,.slice none 0 0,.slice none 0 0,h1.symm,by rw[he];rfl,?_,Sl.nil_,Sl.nil_,o⟩;rw[h2];exact Sl.nil_
theorem ZmH:Zp2 11:=by
 intro c sec g vn vr hs B w h;show Calls _ _ _ _ (ZpW c sec g w);obtain⟨A,cn,rfl,hac,hcm⟩:=h.rd.nodes.form;obtain⟨Ar,cr,rfl,hacr,hcmr⟩:=h.rd.roots.form;unfold maxLen at hcm hcmr;obtain⟨W,hW,HB⟩:=ZnV w c (.slice A g.nd.length cn) (.slice Ar g.rt.length cr);have HW:=ZZ hW
 obtain⟨p,hp⟩: ∃p,p=w.heap.size:=⟨_,rfl⟩
 have HP:=ZZ hp;rw[← hp] at HB;have HI:=ZZ h;have HCK:=ZZ (ZaN c W);obtain⟨c0,c1,c2,c3⟩:=HB.out.2.1
 obtain⟨N,hN⟩: ∃N,N=g.nd.length:=⟨_,rfl⟩
 have HN:=ZZ hN
 obtain⟨M,hM⟩: ∃N,N=g.rt.length:=⟨_,rfl⟩
 have HM:=ZZ hM;rw[← hN, ← hM];rw[← hN, ← hM] at HB HW;rw[← hN] at hac;rw[← hM] at hacr;have hnd:=h.nodes;have hrt:=h.roots;rw[← hN] at hnd;rw[← hM] at hrt;clear hW hp h hN hM
 go_enter Tryz.func11,Tryz.ntmps11
 go_upto_region 1 with fail
 rw[HW.out, ← HP.out];by_cases hok:c.ok
 case neg=>
  rw[Yk hok] at HCK;have HE:=ZZ (Zk1 (sec:=sec) (g:=g) hok);clear hok
  go_wp2_with fail
  go_at_call 26;refine HCK.out.mono ?_;rintro e w1 ⟨rfl,o⟩;have O1:=ZZ (HB.out.1.trans o);have R1:=ZZ (HB.out.2.2.2.keep o id);clear o c0 c1 c2 c3;have s0:w1.cell? ⟨p+1+1,0,none⟩=some (.slice none 0 0):=R1.out.cell 0;have s1:w1.cell? ⟨p+1+1,1,none⟩=some (.int .i64 0):=R1.out.cell 1;have s2:w1.cell? ⟨p+1+1,2,none⟩=some (.slice none 0 0):=R1.out.cell 2;have s3:w1.cell? ⟨p+1+1,3,none⟩=some (.slice none 0 0):=R1.out.cell 3;have f0:=R1.out.free 0;have f1:=R1.out.free 1;have f2:=R1.out.free 2;have f3:=R1.out.free 3
  go_wp2_with fail
  clear s0 s1 s2 s3 f0 f1 f2 f3;obtain⟨W9,hW9,o9, -,B9⟩:=Ziv O1.out (by have:=HP.out;omega) R1.out (.slice none 0 0) (.int .i64 0) (.slice none 0 0) (.slice none 0 0)
  with_reducible rw[hW9]
  have h0:W9.cell? ⟨p+1+1,0,none⟩=some (.slice none 0 0):=B9.cell 0;have h1:W9.cell? ⟨p+1+1,1,none⟩=some (.int .i64 0):=B9.cell 1;have h2:W9.cell? ⟨p+1+1,2,none⟩=some (.slice none 0 0):=B9.cell 2;have h3:W9.cell? ⟨p+1+1,3,none⟩=some (.slice none 0 0):=B9.cell 3
  (try simp only[Exit.inBlock,Exit.then])
  refine bodyPost_ret (v:=.tuple #[.agg #[.slice none 0 0,.int .i64 0,.slice none 0 0,.slice none 0 0],.int .i64 1]) (by simp[results,Tryz.results11,go_sem,h0,h1,h2,h3]) rfl ?_;exact Zdg (by rw[HE.out];decide) (by rw[HE.out]) o9
 case pos=>
 rw[Yl hok] at HCK;have HOK:=ZZ hok;clear hok
 go_wp2_with fail
 go_at_call 26;refine HCK.out.mono ?_;rintro e w1 ⟨rfl,o⟩;have O1:=ZZ (HB.out.1.trans o);have X1:=ZZ (HB.out.2.1.keep o);have G1:=ZZ (HB.out.2.2.1.keep o id);have R1:=ZZ (HB.out.2.2.2.keep o id);have HRT:=Zlu g _ _ hs B w1 (HI.out.rd.only O1.out HI.out.size) (Yh HI.out.size O1.out.size) HI.out.fit;rw[← HN.out, ← HM.out] at HRT;have HRT:=ZZ HRT
 obtain⟨q,hq⟩: ∃q,q=Zb6 g:=⟨_,rfl⟩
 rw[← hq] at HRT;have HQ:=ZZ hq;clear o c0 c1 c2 c3 hq;have g0:w1.cell? ⟨p+1,0,none⟩=some (.slice A N cn):=G1.out.cell 0;have g1:w1.cell? ⟨p+1,1,none⟩=some (.slice Ar M cr):=G1.out.cell 1
 go_wp2_with fail
 go_at_call 27;refine HRT.out.mono ?_;rintro e w2 ⟨rfl,o⟩;have O2:=ZZ (O1.out.trans o);have X2:=ZZ (X1.out.keep o);have G2:=ZZ (G1.out.keep o id);have R2:=ZZ (R1.out.keep o id);clear o g0 g1
 cases q
 case false=>
  have HE:=ZZ (Zhf (sec:=sec) HOK.out (by rw[← HQ.out];decide));have s0:w2.cell? ⟨p+1+1,0,none⟩=some (.slice none 0 0):=R2.out.cell 0;have s1:w2.cell? ⟨p+1+1,1,none⟩=some (.int .i64 0):=R2.out.cell 1;have s2:w2.cell? ⟨p+1+1,2,none⟩=some (.slice none 0 0):=R2.out.cell 2;have s3:w2.cell? ⟨p+1+1,3,none⟩=some (.slice none 0 0):=R2.out.cell 3;have f0:=R2.out.free 0;have f1:=R2.out.free 1;have f2:=R2.out.free 2;have f3:=R2.out.free 3
  go_wp2_with fail
  clear s0 s1 s2 s3 f0 f1 f2 f3;obtain⟨W9,hW9,o9, -,B9⟩:=Ziv O2.out (by have:=HP.out;omega) R2.out (.slice none 0 0) (.int .i64 0) (.slice none 0 0) (.slice none 0 0)
  with_reducible rw[hW9]
  have h0:W9.cell? ⟨p+1+1,0,none⟩=some (.slice none 0 0):=B9.cell 0;have h1:W9.cell? ⟨p+1+1,1,none⟩=some (.int .i64 0):=B9.cell 1;have h2:W9.cell? ⟨p+1+1,2,none⟩=some (.slice none 0 0):=B9.cell 2;have h3:W9.cell? ⟨p+1+1,3,none⟩=some (.slice none 0 0):=B9.cell 3
  (try simp only[Exit.inBlock,Exit.then])
  refine bodyPost_ret (v:=.tuple #[.agg #[.slice none 0 0,.int .i64 0,.slice none 0 0,.slice none 0 0],.int .i64 4]) (by simp[results,Tryz.results11,go_sem,h0,h1,h2,h3]) rfl ?_;exact Zdg (by rw[HE.out];decide) (by rw[HE.out]) o9
 case true=>
 have k2:=X2.out.c2;have g1:w2.cell? ⟨p+1,1,none⟩=some (.slice Ar M cr):=G2.out.cell 1;by_cases hsl:c.slots<(M:Int)
 case pos=>
  have HE:=ZZ (ZdI (sec:=sec) HOK.out HQ.out.symm (by rw[← HM.out];exact hsl));have s0:w2.cell? ⟨p+1+1,0,none⟩=some (.slice none 0 0):=R2.out.cell 0;have s1:w2.cell? ⟨p+1+1,1,none⟩=some (.int .i64 0):=R2.out.cell 1;have s2:w2.cell? ⟨p+1+1,2,none⟩=some (.slice none 0 0):=R2.out.cell 2;have s3:w2.cell? ⟨p+1+1,3,none⟩=some (.slice none 0 0):=R2.out.cell 3;have f0:=R2.out.free 0;have f1:=R2.out.free 1;have f2:=R2.out.free 2;have f3:=R2.out.free 3
  go_wp2_with fail
  clear s0 s1 s2 s3 f0 f1 f2 f3;clear k2 g1;obtain⟨W9,hW9,o9, -,B9⟩:=Ziv O2.out (by have:=HP.out;omega) R2.out (.slice none 0 0) (.int .i64 0) (.slice none 0 0) (.slice none 0 0)
  with_reducible rw[hW9]
  have h0:W9.cell? ⟨p+1+1,0,none⟩=some (.slice none 0 0):=B9.cell 0;have h1:W9.cell? ⟨p+1+1,1,none⟩=some (.int .i64 0):=B9.cell 1;have h2:W9.cell? ⟨p+1+1,2,none⟩=some (.slice none 0 0):=B9.cell 2;have h3:W9.cell? ⟨p+1+1,3,none⟩=some (.slice none 0 0):=B9.cell 3
  (try simp only[Exit.inBlock,Exit.then])
  refine bodyPost_ret (v:=.tuple #[.agg #[.slice none 0 0,.int .i64 0,.slice none 0 0,.slice none 0 0],.int .i64 8]) (by simp[results,Tryz.results11,go_sem,h0,h1,h2,h3]) rfl ?_;exact Zdg (by rw[HE.out];decide) (by rw[HE.out]) o9
 case neg=>
 have HSL:=ZZ (show ¬c.slots<(g.rt.length:Int) by rw[← HM.out];exact hsl);have HFM:=ZZ (ZgC c sec w2)
 obtain⟨u,hu⟩: ∃x,x=(Zj c sec).1:=⟨_,rfl⟩
 obtain⟨v,hv⟩: ∃x,x=(Zj c sec).2:=⟨_,rfl⟩
 have HUV:=ZZ (And.intro hu hv);rw[← hu, ← hv] at HFM;obtain⟨c0,c1, -,c3⟩:=X2.out;clear hu hv
 go_wp2_with fail
 go_at_call 28;refine HFM.out.mono ?_;rintro e w3 ⟨rfl,o⟩;obtain⟨W3,hW3,HB3⟩:=Z8 w3 u v;have HW3:=ZZ hW3
 obtain⟨hb,hhb⟩: ∃b,b=w3.heap.size:=⟨_,rfl⟩
 have HHB:=ZZ hhb;have N3:=ZZ (o.trans HB3.out.1);have O3:=ZZ (O2.out.trans N3.out);have X3:=ZZ (X2.out.keep N3.out);have G3:=ZZ (G2.out.keep N3.out id);have R3:=ZZ (R2.out.keep N3.out id);have H3:=ZZ HB3.out.2.1;rw[← hhb] at H3
 have hph:p+1+1<hb:=by rw[hhb];exact Yv R2.out.lt o.size
 clear hW3 hhb o c0 c1 c3 k2 g1;have u0:W3.cell? ⟨hb,0,none⟩=some (.int .i64 u):=H3.out.cell 0
 go_upto_region 8 with fail
 rw[HW3.out, ← HHB.out];obtain⟨W4,hW4,HB4⟩:=ZeZ W3 #[.slice none 0 0,.int .i64 u,.slice none 0 0,.slice none 0 0];have HW4:=ZZ hW4
 obtain⟨gb,hgb⟩: ∃b,b=W3.heap.size:=⟨_,rfl⟩
 have HGB:=ZZ hgb;have O4:=ZZ (O3.out.trans HB4.out.1);have X4:=ZZ (X3.out.keep HB4.out.1);have G4:=ZZ (G3.out.keep HB4.out.1 id);have R4:=ZZ (R3.out.keep HB4.out.1 id);have H4:=ZZ (H3.out.keep HB4.out.1 id);have B4:=ZZ HB4.out.2;rw[← hgb] at B4
 have hgl:hb<gb:=by rw[hgb];exact H3.out.lt
 clear hW4 hgb
 go_upto_region 9 with fail
 rw[HW4.out, ← HGB.out];clear u0;obtain⟨c0,c1,c2,c3⟩:=X4.out;have hok':=HOK.out;unfold Cf.ok at hok'
 go_upto_if 38 with fail
 go_cut [9] (fun s9 wx=> ∃fv:Value,s9=.pointer (some ⟨gb,0,none⟩)∧Hid (Blk wx gb 42 #[.slice none 0 0,.int .i64 u,.slice none 0 0,fv])∧Hid (wx.ownsRow w.heap.size 61 2 fv (loFr c g.nd 0).length (spc (loFr c g.nd 0)))∧Hid (Only (isb gb) W4 wx))
 case first=>
  by_cases hl:0<c.large
  case pos=>
   have HLA:=ZZ (ZcR c W4)
   obtain⟨x,hx⟩: ∃x,x=(Ze c).1:=⟨_,rfl⟩
   obtain⟨y,hy⟩: ∃x,x=(Ze c).2:=⟨_,rfl⟩
   have HFR:=ZZ (show loFr c g.nd 0=[(x,y)] by rw[Ze1 HOK.out];unfold frN;rw[if_pos hl,hx,hy]);rw[← hx, ← hy] at HLA;clear hx hy
   go_wp2_with fail
   go_at_call 29;refine HLA.out.mono ?_;rintro e w5 ⟨rfl,o⟩;obtain⟨W6,hW6,HB6⟩:=Z8 w5 x y;have HW6:=ZZ hW6;have B6:=ZZ (B4.out.keep (o.trans HB6.out.1) id);have N6:=ZZ (o.trans HB6.out.1)
   have hsz:w.heap.size≤w5.heap.size:=by have:=O4.out.size;have:=o.size;omega
   have b3:W6.cell? ⟨gb,3,none⟩=some (.slice none 0 0):=B6.out.cell 3;have e3:=B6.out.free 3;rw[← hW6] at b3 e3;clear c0 c1 c2 c3 o hW6;go_wp2;clear b3 e3
   with_reducible rw[HW6.out]
   go_meet
   refine⟨_,rfl,ZZ (by simpa using B6.out.put 3 (.slice (some ⟨w5.heap.size,0,none⟩) 1 1)),ZZ ?_,ZZ ((N6.out.mono fun _ _ h=>h.elim).trans (Zc _ gb 3 _))⟩;rw[HFR.out]
   have h1:W6.ownsRow w.heap.size 61 2 (.slice (some ⟨w5.heap.size,0,none⟩) 1 1) 1 (spc [(x,y)]):=⟨rfl,.inr ⟨w5.heap.size,1,_,rfl,hsz,HB6.out.2.1,Yi _,by decide,rfl,rfl⟩⟩
   exact Zb h1 (Zc W6 gb 3 _) (Zd h1 B6.out (by decide))
  case neg=>
   have HFR:=ZZ (show loFr c g.nd 0=[] by rw[Ze1 HOK.out];unfold frN;rw[if_neg hl]);clear c0 c2 c3;go_wp2
   go_meet
   refine⟨.slice none 0 0,rfl,B4,ZZ ?_,ZZ (Only.refl _ _)⟩;rw[HFR.out];exact World.ownsRow_nil _ _ _ _
 case rest=>
 obtain⟨fv0,rfl,HBG,HFV,HOC⟩:=hcut
 obtain⟨W5,rfl⟩: ∃x:World,x=wc:=⟨_,rfl⟩
 have O5:=ZZ (show Only nob w W5 from O4.out.andThen HOC.out fun i hi e=>by unfold isb at e;have:=HP.out;omega)
 have HK:=ZZ (show ∀wx,Only (isb gb) W5 wx→CBox wx p c∧wx.cell? ⟨p+1,0,none⟩=some (.slice A N cn)∧Blk wx (p+1+1) 42 #[.slice none 0 0,.int .i64 0,.slice none 0 0,.slice none 0 0]∧Blk wx hb 61 #[.int .i64 u,.int .i64 v]∧Only nob w wx from fun wx o=>by
  have o2:=HOC.out.trans o;have kp: ∀(bl i:Nat) (z:Value),bl≠gb→W4.cell? ⟨bl,i,none⟩=some z→wx.cell? ⟨bl,i,none⟩=some z:=fun bl i z hne hc=>(o2.cell (p:=⟨bl,i,none⟩) (World.block_lt_of_cell? W4 ⟨bl,i,none⟩ hc) hne).trans hc
  exact⟨⟨kp _ _ _ (by omega) X4.out.c0,kp _ _ _ (by omega) X4.out.c1,kp _ _ _ (by omega) X4.out.c2,kp _ _ _ (by omega) X4.out.c3⟩,kp _ _ _ (by omega) (G4.out.cell 0),R4.out.keep o2 (by unfold isb;omega),H4.out.keep o2 (by unfold isb;omega),O5.out.andThen o fun i hi e=>by unfold isb at e;have:=HP.out;omega⟩)
 have HS:=ZZ (Zht HQ.out.symm);obtain⟨j0,hj0,hy0,hy1,hy2⟩:=info_parts Zcq;clear c0 c1 c2 c3
 go_wp2_with fail
 go_loopw [10] (fun vi wr=> ∃(k:Nat) (pv tv fv:Value),k≤N∧vi=.int .i64 k∧Hid (Zw c sec g.nd k)∧Hid (Blk wr gb 42 #[pv,.int .i64 (loT c sec+sSm c (g.nd.take k)),tv,fv])∧Hid (wr.ownsRow W5.heap.size 3 1 pv k (i64s (plL c (loT c sec) (loB c) (g.nd.take k))))∧Hid (wr.ownsRow w.heap.size 61 2 tv (tbL c (loB c) (g.nd.take k)).length (spc (tbL c (loB c) (g.nd.take k))))∧Hid (wr.ownsRow w.heap.size 61 2 fv (loFr c g.nd k).length (spc (loFr c g.nd k)))∧Hid (Only (isb gb) W5 wr)) (fun vi _=>N - (RowKit.intOf vi).toNat)
 case atStart=>
  refine⟨0,.slice none 0 0,.slice none 0 0,fv0,Yt _,rfl,ZZ (Zem HOK.out),ZZ ?_,ZZ (World.ownsRow_nil _ _ _ _),ZZ (World.ownsRow_nil _ _ _ _),HFV,ZZ (Only.refl _ _)⟩;have h1:=HBG.out;rw[HUV.out.1] at h1;simpa[loT,sSm] using h1
 case round=>
 obtain⟨k,pv,tv,fv,hk,rfl,HRO,HGB',HPV,HTV,HFV',HO⟩:=hrel;obtain⟨Pv,cv,hpv,hpc,hpm⟩:=Zl HPV.out;obtain⟨At,ct,htv, -, -⟩:=Zl HTV.out;obtain⟨Av,cf,hfv, -, -⟩:=Zl HFV'.out;subst hpv htv hfv;obtain⟨XC,XG,XR,XH,XO⟩:=HK.out _ HO.out;have OWR:=ZZ XO;have ZR:=ZZ XR;have XC:=ZZ XC;have XH:=ZZ XH;have g0:=XG;clear XG XR XO;by_cases hlt:k<N
 case pos=>
  obtain⟨d,hd⟩: ∃x,g.nd[k]? =some x:=⟨_,Ya (by rw[← HN.out];exact hlt)⟩
  obtain⟨bb,oo,fv',rv',hA,hbb2,hh,q0,q1,q2,hnd'⟩:=HI.out.rd.at_ (OWR.out.below HI.out.size fun _ h=>h.elim) hd;subst hA;obtain⟨Ff,ff,hff, -, -⟩:=hnd'.fields.form;obtain⟨Fq,fq,hfq, -, -⟩:=hnd'.raws.form;simp only at hff hfq;subst hff hfq;have hsz:=HS.out d (Yn hd);have hl:=Zas (c:=c) HS.out k;have hfb:=Zby (sec:=sec) HOK.out;have hbd:=Zai HOK.out;have hcb:=ZK HOK.out sec;have hro:=HRO.out;unfold Zw at hro;have HD:=ZZ hd;have HSZ:=ZZ (ZnF d (.slice Ff d.fs.length ff,.slice Fq d.rs.length fq) B wr hnd');have HSM:=ZZ (fun W=>Zfy c (ndSz d) W)
  obtain⟨n,hn⟩: ∃n,n=ndSz d:=⟨_,rfl⟩
  have HNN:=ZZ hn
  obtain⟨t,ht⟩: ∃t,t=loT c sec+sSm c (g.nd.take k):=⟨_,rfl⟩
  have HT:=ZZ ht
  have hts0:0≤t∧t≤65536:=by rw[ht];exact Zo5 HOK.out HS.out HRO.out
  have huv:u=loT c sec∧u+v=ZaX c sec∧0≤u+v∧u+v≤65536:=⟨HUV.out.1,by rw[HUV.out.1,HUV.out.2];rfl,by rw[HUV.out.1,HUV.out.2];exact(Zdp HOK.out sec).1,by rw[HUV.out.1,HUV.out.2];exact(Zdp HOK.out sec).2⟩
  have HLM:=ZZ huv
  obtain⟨PL,hPL⟩: ∃L,L=plL c (loT c sec) (loB c) (g.nd.take k):=⟨_,rfl⟩
  have HPL:=ZZ hPL
  obtain⟨nt,hnt⟩: ∃n,n=(tbL c (loB c) (g.nd.take k)).length:=⟨_,rfl⟩
  obtain⟨nf,hnf⟩: ∃n,n=(loFr c g.nd k).length:=⟨_,rfl⟩
  have HNT:=ZZ (And.intro hnt hnf)
  have hntl:nt≤1000:=by rw[hnt];exact Yh (Zji c _ _) (by rw[List.length_take];omega)
  rw[← ht, ← hnt, ← hnf] at HGB';rw[← hnt] at HTV;rw[← hnf] at HFV';rw[← hPL] at HPV;rw[← hn] at HSZ HSM hsz
  obtain⟨sm,hsm⟩: ∃b,b=ZaD c d:=⟨_,rfl⟩
  have HSMQ:=ZZ hsm
  have HSM:=ZZ (show ∀W,Calls Tryz.prog 31 #[.agg #[.int .i64 c.semi,.int .i64 c.large,.int .i64 c.slots,.int .i64 c.limit],.int .i64 n] W fun e w'=>e=.returned (.bool sm)∧Only nob W w' from fun W=>by
   have h1:=HSM.out W
   have h2:ZX c n=sm:=by rw[hn,hsm];rfl
   rw[h2] at h1
   exact h1)
  have hw1:IntKind.i64.wrap (t+n)=t+n:=ZcO (Int.add_nonneg hts0.1 (Int.le_trans (by decide) hsz.1)) (Int.le_trans (Int.add_le_add hts0.2 hsz.2) (by decide));have hw2:IntKind.i64.wrap (u+v)=u+v:=ZcO huv.2.2.1 (Int.le_trans huv.2.2.2 (by decide))
  obtain⟨kd,hkd⟩: ∃z,z=d.kd:=⟨_,rfl⟩
  rw[← hkd] at HSZ q0;clear hn ht huv hPL hnt hnf hsm hkd hd hh hnd' hl hfb hbd hcb hro
  go_wp2_with fail
  go_at_call 30;refine HSZ.out.mono ?_;rintro e w6 ⟨rfl,o⟩;have O6:=ZZ o;obtain⟨c0,c1,c2,c3⟩:=XC.out.keep o;clear o q0 q1 q2 g0
  go_wp2_with fail
  go_at_call 31;refine(HSM.out w6).mono ?_;rintro e w7 ⟨rfl,o⟩;have N7:=ZZ (O6.out.trans o);have OW:=ZZ (show Only (isb gb) W5 w7 from HO.out.trans (N7.out.mono fun _ _ h=>h.elim));have ON:=ZZ (OWR.out.trans N7.out);have BW:=ZZ (HGB'.out.keep N7.out id);have PW:=ZZ (Zb HPV.out N7.out fun _ _=>id);have TW:=ZZ (Zb HTV.out N7.out fun _ _=>id);have FW:=ZZ (Zb HFV'.out N7.out fun _ _=>id);have ZW:=ZZ (ZR.out.keep N7.out id);have XW:=ZZ (XH.out.keep N7.out id);have hsW:=OW.out.size;clear o c0 c1 c2 c3
  cases sm
  case true=>
   obtain⟨n1,n2,n3,n4⟩:=ZcG (c:=c) HD.out HSMQ.out.symm (loT c sec) (loB c);have HX:=ZZ (And.intro n1 (And.intro n2 (And.intro n3 n4)));have HRI:=ZZ (Zet (sec:=sec) HD.out HSMQ.out.symm HRO.out);clear n1 n2 n3 n4;obtain⟨b0,b1,b2,b3⟩:=Zu BW.out
   obtain⟨x0,x1⟩:=(show w7.cell? ⟨hb,0,none⟩=some (.int .i64 u)∧w7.cell? ⟨hb,1,none⟩=some (.int .i64 v) from⟨XW.out.cell 0,XW.out.cell 1⟩)
   by_cases hq:u+v<t+n
   case pos=>
    have HE:=ZZ (show loE c sec g=9 from Zf0 HOK.out HQ.out.symm (by have:=HSL.out;omega) fun h=>by
     have h1:=HRI.out.1 (Ze2 HS.out (k+1) h);rw[← HT.out, ← HNN.out, ← HLM.out.2.1] at h1
     omega)
    obtain⟨s0,s1,s2,s3⟩:=Zu ZW.out;obtain⟨f0,f1,f2,f3⟩:=Zcl ZW.out
    go_wp2_with fail
    clear s0 s1 s2 s3 f0 f1 f2 f3;obtain⟨W9,hW9,o9, -,B9⟩:=Ziv ON.out (by have:=HP.out;omega) ZW.out (.slice none 0 0) (.int .i64 0) (.slice none 0 0) (.slice none 0 0)
    with_reducible rw[hW9]
    obtain⟨h0,h1,h2,h3⟩:=Zu B9
    (try simp only[Exit.inBlock,Exit.then])
    refine bodyPost_ret (v:=.tuple #[.agg #[.slice none 0 0,.int .i64 0,.slice none 0 0,.slice none 0 0],.int .i64 9]) (by simp[results,Tryz.results11,go_sem,h0,h1,h2,h3]) rfl ?_;exact Zdg (by rw[HE.out];decide) (by rw[HE.out]) o9
   case neg=>
   have HR2:=ZZ (HRI.out.2 (by rw[← HT.out, ← HNN.out, ← HLM.out.2.1];omega));have HQ3:=ZZ (Blk.new w7 3 #[.int .i64 t])
   go_wp2_with (with_reducible refine Zf (o:=⟨some 75,_,_,_,_,_⟩) _ rfl (.tmp 71) (.tmp 74) _ rfl W5.heap.size 3 j0 _ 1 8 Tryz.underlying38 hj0 hy0 hy1 hy2 rfl (by decide) (.slice Pv k cv) k (i64s PL) rfl ?c7 (w7.heap.size+1) (.slice (some ⟨w7.heap.size,0,none⟩) 1 1) 1 (i64s [t]) rfl ?c8 (ZbM _) ?c9 ?c10 ?c11 ?c12)
   case c7=>exact Zb PW.out ((Only.refl nob w7).alloc _) fun _ _ h=>h
   case c8=>exact(Sl.of_blk (size:=1) (n:=1) (c:=1) HQ3.out rfl (Yi _) (by decide)).more (by simp)
   case c9=>unfold maxLen;omega
   case c10=>omega
   case c11=>have:=hsW;simp;omega
   case c12=>
   intro v2 w8 H2 o8 _;have hn8:Only nob w7 (w7.alloc (.cells #[.int .i64 t] 3)):=(Only.refl nob w7).alloc _;have P8:=ZZ (show w8.ownsRow W5.heap.size 3 1 v2 (k+1) (i64s (PL++[t])) by rw[ZaG];exact H2.out);have hp8:=Zb PW.out hn8 fun _ _=>id;have T8:=ZZ (Zb (Zb TW.out hn8 fun _ _=>id) o8 fun q hq e=>Zbp (Zb TW.out hn8 fun _ _=>id) hp8 (by decide) q hq e);have F8:=ZZ (Zb (Zb FW.out hn8 fun _ _=>id) o8 fun q hq e=>Zbp (Zb FW.out hn8 fun _ _=>id) hp8 (by decide) q hq e);have B8:=ZZ ((BW.out.keep hn8 id).keep o8 fun e=>Zd hp8 (BW.out.keep hn8 id) (by decide) _ e rfl);have O8:=ZZ ((OW.out.trans (hn8.mono fun _ _ h=>h.elim)).andThen o8 fun i hi e=>by have:=(Zr PW.out e).1;omega);obtain⟨A2,k2,rfl, -, -⟩:=Zl P8.out;clear H2 o8 hn8 hp8;obtain⟨b0,b1,b2,b3⟩:=Zu B8.out;obtain⟨f0,f1, -, -⟩:=Zcl B8.out
   obtain⟨W9,hW9,o9,B9⟩: ∃W9,(w8.setCell ⟨gb,0,none⟩ (.slice A2 (k+1) k2)).setCell ⟨gb,1,none⟩ (.int .i64 (t+n))=W9∧Only (isb gb) w8 W9∧Blk W9 gb 42 #[.slice A2 (k+1) k2,.int .i64 (t+n),.slice At nt ct,.slice Av nf cf]:=⟨_,rfl,(Zc _ gb 0 _).trans (Zc _ gb 1 _),by simpa using(B8.out.put 0 (.slice A2 (k+1) k2)).put 1 (.int .i64 (t+n))⟩
   have HW9:=ZZ hW9;clear hW9;clear x0 x1
   go_wp2_with fail
   with_reducible rw[HW9.out]
   go_roundw
   case rel=>
    refine⟨k+1,.slice A2 (k+1) k2,.slice At nt ct,.slice Av nf cf,by omega,by go_num,HR2,ZZ ?_,ZZ ?_,ZZ ?_,ZZ ?_,ZZ (O8.out.trans o9)⟩
    · rw[HX.out.1, ← Int.add_assoc, ← HT.out, ← HNN.out];exact B9
    · rw[HX.out.2.2.1, ← HPL.out, ← HT.out];exact Zb P8.out o9 (Zd P8.out B8.out (by decide))
    · rw[HX.out.2.2.2, ← HNT.out.1];exact Zb T8.out o9 (Zd T8.out B8.out (by decide))
    · have e:loFr c g.nd (k+1)=loFr c g.nd k:=by unfold loFr;rw[HX.out.2.1]
      rw[e, ← HNT.out.2];exact Zb F8.out o9 (Zd F8.out B8.out (by decide))
   case measure=>simp[RowKit.intOf];omega
  case false=>
   obtain⟨n1,n2,n3,n4⟩:=Zch (c:=c) HD.out HSMQ.out.symm (loT c sec) (loB c);have HX:=ZZ (And.intro n1 (And.intro n2 (And.intro n3 n4)));have HRI:=ZZ (Zg0 (sec:=sec) HD.out HSMQ.out.symm HRO.out);clear n1 n2 n3 n4;have HTK:=Znr (.slice Av nf cf) (loFr c g.nd k) n w7.heap.size w7 hsz.1 ZhQ (Zm5 HOK.out HS.out HRO.out.2) (by rw[← HNT.out.2];exact Sl.of_own FW.out FW.out.1) (Yi _);unfold ZgY at HTK
   obtain⟨z,hz⟩: ∃z,z=loB c+sBg c (g.nd.take k):=⟨_,rfl⟩
   have HZ:=ZZ hz;by_cases hq:z+n≤ZD c
   case neg=>
    have HE:=ZZ (show loE c sec g=9 from Zf0 HOK.out HQ.out.symm (by have:=HSL.out;omega) fun h=>hq (by
     have h1:=HRI.out.1 (Ze2 HS.out (k+1) h);rw[HZ.out,HNN.out]
     exact h1))
    have hno:=ZkS HOK.out HS.out HD.out HRO.out.2 (by rw[← HNN.out, ← HZ.out];exact hq);rw[← HNN.out] at hno;rw[hno] at HTK;have HTK:=ZZ HTK;clear hno hz;obtain⟨-, -, -,b3⟩:=Zu BW.out
    go_wp2_with fail
    go_at_call 32;refine HTK.out.mono ?_;rintro e w8 ⟨v',rfl,hs8, -,o⟩;obtain⟨A8,c8,rfl, -, -⟩:=hs8.form;have ON8:=ZZ (ON.out.trans o);have ZW8:=ZZ (ZW.out.keep o id);clear o b3 hs8;obtain⟨s0,s1,s2,s3⟩:=Zu ZW8.out;obtain⟨f0,f1,f2,f3⟩:=Zcl ZW8.out
    go_wp2_with fail
    clear s0 s1 s2 s3 f0 f1 f2 f3;obtain⟨W9,hW9,o9, -,B9⟩:=Ziv ON8.out (by have:=HP.out;omega) ZW8.out (.slice none 0 0) (.int .i64 0) (.slice none 0 0) (.slice none 0 0)
    with_reducible rw[hW9]
    obtain⟨h0,h1,h2,h3⟩:=Zu B9
    (try simp only[Exit.inBlock,Exit.then])
    refine bodyPost_ret (v:=.tuple #[.agg #[.slice none 0 0,.int .i64 0,.slice none 0 0,.slice none 0 0],.int .i64 9]) (by simp[results,Tryz.results11,go_sem,h0,h1,h2,h3]) rfl ?_;exact Zdg (by rw[HE.out];decide) (by rw[HE.out]) o9
   case pos=>
   have HR2:=ZZ (HRI.out.2 (by rw[← HZ.out, ← HNN.out];exact hq));have hyes:=Zg5 HOK.out HS.out HD.out HSMQ.out.symm (by rw[← HNN.out, ← HZ.out];exact hq);rw[← HNN.out, ← HZ.out] at hyes;rw[hyes] at HTK;have hadd:=ZnT HOK.out HS.out HD.out HSMQ.out.symm (by rw[← HNN.out, ← HZ.out];exact hq);rw[← HNN.out, ← HZ.out] at hadd;have HADD:=ZZ hadd
   obtain⟨FR,hFR⟩: ∃L,L=loFr c g.nd (k+1):=⟨_,rfl⟩
   rw[← hFR] at HTK;have HFR:=ZZ hFR;have HTK:=ZZ HTK;clear hyes hadd hz hFR;obtain⟨-, -, -,b3⟩:=Zu BW.out
   go_wp2_with fail
   go_at_call 32;refine HTK.out.mono ?_;rintro e w8 ⟨v',rfl, -,hown,o⟩;have HF8:=ZZ (hown (by first|rfl|trivial))
   try simp only at HF8
   obtain⟨A8,c8,rfl, -, -⟩:=Zl HF8.out;have BW8:=ZZ (BW.out.keep o id);have PW8:=ZZ (Zb PW.out o fun _ _=>id);have TW8:=ZZ (Zb TW.out o fun _ _=>id);have OW8:=ZZ (OW.out.trans (o.mono fun _ _ h=>h.elim));have HF8:=ZZ (Zak (base':=w.heap.size) HF8.out fun q e=>Yh ON.out.size (Zr HF8.out e).1);clear o b3 hown;have b3:w8.cell? ⟨gb,3,none⟩=some (.slice Av nf cf):=BW8.out.cell 3;have f3:=BW8.out.free 3
   obtain⟨W9,hW9,o9,B9⟩: ∃W9,w8.setCell ⟨gb,3,none⟩ (.slice A8 FR.length c8)=W9∧Only (isb gb) w8 W9∧Blk W9 gb 42 #[.slice Pv k cv,.int .i64 t,.slice At nt ct,.slice A8 FR.length c8]:=⟨_,rfl,Zc _ gb 3 _,by simpa using BW8.out.put 3 (.slice A8 FR.length c8)⟩
   have HW9:=ZZ hW9;have B9:=ZZ B9;have P9:=ZZ (Zb PW8.out o9 (Zd PW8.out BW8.out (by decide)));have T9:=ZZ (Zb TW8.out o9 (Zd TW8.out BW8.out (by decide)));have F9:=ZZ (Zb HF8.out o9 (Zd HF8.out BW8.out (by decide)));have O9:=ZZ (OW8.out.trans o9);clear hW9 o9
   go_upto_region 24 with fail
   rw[HW9.out];clear b3 f3;have HAD:=ZpI (.slice At nt ct) (tbL c (loB c) (g.nd.take k)) (z,n) W9.heap.size W9 (by rw[← HNT.out.1];exact Sl.of_own T9.out T9.out.1) (Yi _) (by rw[← HNT.out.1];omega);unfold Zoz at HAD;rw[HADD.out] at HAD
   obtain⟨TB,hTB⟩: ∃L,L=tbL c (loB c) (g.nd.take (k+1)):=⟨_,rfl⟩
   rw[← hTB] at HAD;have HTB:=ZZ hTB;have HAD:=ZZ HAD;clear hTB;obtain⟨-, -,b2, -⟩:=Zu B9.out
   go_wp2_with fail
   go_at_call 33;refine HAD.out.mono ?_;rintro e w10 ⟨v',rfl, -,hown,o⟩;have HT10:=ZZ (hown (by first|rfl|trivial))
   try simp only at HT10
   obtain⟨A10,c10,rfl, -, -⟩:=Zl HT10.out;have BV:=ZZ (B9.out.keep o id);have PV:=ZZ (Zb P9.out o fun _ _=>id);have FV:=ZZ (Zb F9.out o fun _ _=>id);have OV:=ZZ (O9.out.trans (o.mono fun _ _ h=>h.elim));have hsw:w.heap.size≤W9.heap.size:=Yh O5.out.size O9.out.size;have HT10:=ZZ (Zak (base':=w.heap.size) HT10.out fun q e=>Yh hsw (Zr HT10.out e).1);clear o b2 hown;have b2:w10.cell? ⟨gb,2,none⟩=some (.slice At nt ct):=BV.out.cell 2;have f2:=BV.out.free 2
   obtain⟨W11,hW11,o11,B11⟩: ∃W9,w10.setCell ⟨gb,2,none⟩ (.slice A10 TB.length c10)=W9∧Only (isb gb) w10 W9∧Blk W9 gb 42 #[.slice Pv k cv,.int .i64 t,.slice A10 TB.length c10,.slice A8 FR.length c8]:=⟨_,rfl,Zc _ gb 2 _,by simpa using BV.out.put 2 (.slice A10 TB.length c10)⟩
   have HW11:=ZZ hW11;have BW:=ZZ B11;have PW:=ZZ (Zb PV.out o11 (Zd PV.out BV.out (by decide)));have TW:=ZZ (Zb HT10.out o11 (Zd HT10.out BV.out (by decide)));have FW:=ZZ (Zb FV.out o11 (Zd FV.out BV.out (by decide)));have OW:=ZZ (OV.out.trans o11);have hsW:=OW.out.size;clear hW11 o11
   go_upto_region 25 with fail
   rw[HW11.out];clear b2 f2;obtain⟨b0,b1,b2,b3⟩:=Zu BW.out;have HQ3:=ZZ (Blk.new W11 3 #[.int .i64 z])
   go_wp2_with (with_reducible refine Zf (o:=⟨some 110,_,_,_,_,_⟩) _ rfl (.tmp 107) (.tmp 109) _ rfl W5.heap.size 3 j0 _ 1 8 Tryz.underlying38 hj0 hy0 hy1 hy2 rfl (by decide) (.slice Pv k cv) k (i64s PL) rfl ?c7 (W11.heap.size+1) (.slice (some ⟨W11.heap.size,0,none⟩) 1 1) 1 (i64s [z]) rfl ?c8 (ZbM _) ?c9 ?c10 ?c11 ?c12)
   case c7=>exact Zb PW.out ((Only.refl nob W11).alloc _) fun _ _ h=>h
   case c8=>exact(Sl.of_blk (size:=1) (n:=1) (c:=1) HQ3.out rfl (Yi _) (by decide)).more (by simp)
   case c9=>unfold maxLen;omega
   case c10=>omega
   case c11=>have:=hsW;simp;omega
   case c12=>
   intro v2 w8' H2 o8 _;have hn8:Only nob W11 (W11.alloc (.cells #[.int .i64 z] 3)):=(Only.refl nob W11).alloc _;have P8:=ZZ (show w8'.ownsRow W5.heap.size 3 1 v2 (k+1) (i64s (PL++[z])) by rw[ZaG];exact H2.out);have hp8:=Zb PW.out hn8 fun _ _=>id;have T8:=ZZ (Zb (Zb TW.out hn8 fun _ _=>id) o8 fun q hq e=>Zbp (Zb TW.out hn8 fun _ _=>id) hp8 (by decide) q hq e);have F8:=ZZ (Zb (Zb FW.out hn8 fun _ _=>id) o8 fun q hq e=>Zbp (Zb FW.out hn8 fun _ _=>id) hp8 (by decide) q hq e);have B8:=ZZ ((BW.out.keep hn8 id).keep o8 fun e=>Zd hp8 (BW.out.keep hn8 id) (by decide) _ e rfl);have O8:=ZZ ((OW.out.trans (hn8.mono fun _ _ h=>h.elim)).andThen o8 fun i hi e=>by have:=(Zr PW.out e).1;omega);obtain⟨A2,k2,rfl, -, -⟩:=Zl P8.out;clear H2 o8 hn8 hp8;obtain⟨b0,b1,b2,b3⟩:=Zu B8.out;have f0:=B8.out.free 0
   obtain⟨W12,hW12,o12,B12⟩: ∃W9,w8'.setCell ⟨gb,0,none⟩ (.slice A2 (k+1) k2)=W9∧Only (isb gb) w8' W9∧Blk W9 gb 42 #[.slice A2 (k+1) k2,.int .i64 t,.slice A10 TB.length c10,.slice A8 FR.length c8]:=⟨_,rfl,Zc _ gb 0 _,by simpa using B8.out.put 0 (.slice A2 (k+1) k2)⟩
   have HW12:=ZZ hW12;clear hW12
   go_wp2_with fail
   with_reducible rw[HW12.out]
   go_roundw
   case rel=>
    refine⟨k+1,.slice A2 (k+1) k2,.slice A10 TB.length c10,.slice A8 FR.length c8,by omega,by go_num,HR2,ZZ ?_,ZZ ?_,ZZ ?_,ZZ ?_,ZZ (O8.out.trans o12)⟩
    · rw[HX.out.1, ← HT.out];exact B12
    · rw[HX.out.2.2.1, ← HPL.out, ← HZ.out];exact Zb P8.out o12 (Zd P8.out B8.out (by decide))
    · rw[← HTB.out];exact Zb T8.out o12 (Zd T8.out B8.out (by decide))
    · rw[← HFR.out];exact Zb F8.out o12 (Zd F8.out B8.out (by decide))
   case measure=>simp[RowKit.intOf];omega
 case neg=>
 obtain rfl:k=N:=by omega
 have HE:=ZZ (show loE c sec g=0 from Zdf HOK.out HQ.out.symm (by have:=HSL.out;omega) (by rw[← HN.out];exact HRO.out));have HTK:=ZZ (show g.nd.take k=g.nd by rw[HN.out,List.take_length]);obtain⟨b0,b1,b2,b3⟩:=Zu HGB'.out;obtain⟨s0,s1,s2,s3⟩:=Zu ZR.out;obtain⟨f0,f1,f2,f3⟩:=Zcl ZR.out
 go_wp2_with fail
 clear s0 s1 s2 s3 f0 f1 f2 f3 b0 b1 b2 b3 g0;obtain⟨W9,hW9,o9,q9,B9⟩:=Ziv OWR.out (by have:=HP.out;omega) ZR.out (.slice Pv k cv) (.int .i64 (loT c sec+sSm c (g.nd.take k))) (.slice At (tbL c (loB c) (g.nd.take k)).length ct) (.slice Av (loFr c g.nd k).length cf)
 with_reducible rw[hW9]
 obtain⟨h0,h1,h2,h3⟩:=Zu B9
 (try simp only[Exit.inBlock,Exit.then])
 refine bodyPost_ret (v:=.tuple #[.agg #[.slice Pv k cv,.int .i64 (loT c sec+sSm c (g.nd.take k)),.slice At (tbL c (loB c) (g.nd.take k)).length ct,.slice Av (loFr c g.nd k).length cf],.int .i64 0]) (by simp[results,Tryz.results11,go_sem,h0,h1,h2,h3]) rfl ?_;have p9:=Zb HPV.out q9 (Zd HPV.out ZR.out (by decide));have t9:=Zb HTV.out q9 (Zd HTV.out ZR.out (by decide));have f9:=Zb HFV'.out q9 (Zd HFV'.out ZR.out (by decide));refine⟨ZaK c sec g,.slice Pv k cv,.slice At (tbL c (loB c) (g.nd.take k)).length ct,.slice Av (loFr c g.nd k).length cf,(ZaO HE.out).1.symm,by rw[HE.out,HTK.out];rfl,?_,?_,?_,o9⟩
 · rw[(ZaO HE.out).2]
   have e:(loPl c sec g).length=k:=(Zbo ..).trans HN.out.symm;rw[e];rw[HTK.out] at p9;exact Sl.of_own p9 p9.1
 · rw[HTK.out] at t9 ⊢
   exact Sl.of_own t9 t9.1
 · have e:(ZaK c sec g).fr=loFr c g.nd k:=by unfold loFr;rw[HTK.out];rfl
   rw[e];exact Sl.of_own f9 f9.1
end Go.Proofs.YtknoncenblehkaaGreatDoor
