/- Package lift: an object as a node. -/
import Derived.Test.YteieocddfnlmdaaGreatDoorP40
namespace Go.Proofs.YteieocddfnlmdaaGreatDoor
open Go.RowKit Go.Lib
set_option maxRecDepth 100000
set_option linter.unusedSimpArgs false
set_option linter.unusedVariables false
theorem ZhX (l:List Nat) (a n:Nat) (h:a+n≤l.length):part l a n=(List.range n).map fun k=>wd l (a+k):=by
 unfold part;apply List.ext_getElem?;intro j;rw[List.getElem?_take,List.getElem?_map];by_cases hj:j<n
 · rw[if_pos hj,List.getElem?_drop,List.getElem?_range hj,Zq0 (by omega)];rfl
 · rw[if_neg hj,List.getElem?_eq_none (by simp;omega)];rfl
theorem ZhA {A:Option Addr} {c:Nat} {l:List Nat} {B:Nat} {w:World} (h:Sl w B 1 (.slice A l.length c) l.length (u64s l)) (a n:Nat) (hn:a+n≤l.length):Sl w B 1 (ZcT A a (a+n) c 1) (part l a n).length (u64s (part l a n)):=by
 have h1:=h.cut (l:=a) (k:=a+n) (by omega) hn
 have h4:((u64s l).drop (a * 1)).take ((a+n - a) * 1)=u64s (part l a n):=by
  unfold u64s part;rw[List.map_take,List.map_drop];congr 1 <;> simp
 rw[h4] at h1
 have h5:a+n - a=(part l a n).length:=by rw[Zar _ _ _ (by omega)];omega
 rwa [h5] at h1
theorem Zg3 (A:Option Addr) (n c a b:Nat) (hl:a≤b) (hc:b≤c) (w:World):(Instr.sliceAt 24 (.slice A n c) (some (.int .i64 (a:Int))) (some (.int .i64 (b:Int))) none).run Tryz.prog w=.ok (ZcT A a b c 1) w:=by
 obtain⟨i,hi, -,h1, -⟩:=info_parts Zdj
 have:=Zde Tryz.underlying24 hi A n c a b hl hc w
 rw[h1] at this;exact this
theorem ZsP {w W:World} {b:Nat} {t:TypeId} (o:Only nob w W) (hb:w.heap.size≤b) {z0 z1 z2:Value} (B:Blk W b t #[z0,z1,z2]) (x0 x1 x2:Value):
 ∃W4,(((W.setCell ⟨b,0,none⟩ x0).setCell ⟨b,1,none⟩ x1).setCell ⟨b,2,none⟩ x2)=W4∧Only nob w W4∧Only (isb b) W W4∧Blk W4 b t #[x0,x1,x2]:=by
 refine⟨_,rfl,Ze (Ze (Ze o hb _) hb _) hb _,((Zc _ _ _ _).trans (Zc _ _ _ _)).trans (Zc _ _ _ _),?_⟩;simpa using((B.put 0 x0).put 1 x1).put 2 x2
set_option maxHeartbeats 8000000 in
theorem ZrM (s:St) (p:Nat) (g:FuncId) (lb:Array Value) (vw vt vf vs:Value) (B:Nat) (w:World) (h:Rd w B s vw vt vf vs) (hB:B≤w.heap.size) (hok:StOk s) (hpar:Par w) (Zf7:May15 s) (hp:(p:Int)∈s.objs)
 (ht:ZiB g lb (fun x=>x<18446744073709551616∧leads s.objs x=true) (Zff s.objs) w):
 Calls Tryz.prog 31 #[.agg #[.int .i64 s.cf.semi,.int .i64 s.cf.large,.int .i64 s.cf.slots,.int .i64 s.cf.limit,.bool s.sec,vw,.int .i64 s.top,vt,vf,vs],.int .i64 (p:Nat),.func (.func g) #[] lb] w fun e w'=>
  ∃v1 v2,e=.returned (.agg #[.int .i64 (liN s.objs s.ws p).kd,v1,v2])∧NdO w' w.heap.size (liN s.objs s.ws p) (v1,v2)∧Only nob w w':=by
 obtain⟨Aw,cw,rfl,haw,hcw⟩:=h.words.form;unfold maxLen at hcw;obtain⟨W0,hW0,HB0⟩:=Zv w s (.slice Aw s.ws.length cw) vt vf vs;have HW0:=ZZ hW0;obtain⟨W,hW,HBW⟩:=Zaq W0 0 (.slice none 0 0) (.slice none 0 0);have HW:=ZZ hW
 obtain⟨sb,hsb⟩: ∃q,q=w.heap.size:=⟨_,rfl⟩
 have hr:W0.heap.size=sb+1:=by rw[← hW0,hsb];simp
 have HSB:=ZZ hsb;have OW:=ZZ (HB0.out.1.trans HBW.out.1);have SB:=ZZ (HB0.out.2.2.keep HBW.out.1);rw[← hsb] at SB;have BN:=ZZ HBW.out.2.1;rw[hr] at BN;have hsz1:sb+1<W.heap.size:=BN.out.lt;obtain⟨hb1,hb2,hb3,hb4,hb5,hb6, -⟩:=Zaj (Zf7.head hp).1
 obtain⟨F,hF⟩: ∃F:Nat,ohF s.ws p=(F:Int):=⟨(ohF s.ws p).toNat,by omega⟩
 obtain⟨R,hRr⟩: ∃R:Nat,ohR s.ws p=(R:Int):=⟨(ohR s.ws p).toNat,by omega⟩
 rw[hF,hRr] at hb4;rw[hF] at hb5;rw[hRr] at hb6
 obtain⟨x1,hx1⟩: ∃x,x=p+1:=⟨_,rfl⟩
 obtain⟨x2,hx2⟩: ∃x,x=x1+F:=⟨_,rfl⟩
 obtain⟨x3,hx3⟩: ∃x,x=x2+R:=⟨_,rfl⟩
 have hl3:x3≤s.ws.length:=by omega
 have hlw:s.ws.length≤98304:=hok.few.1
 have m1:IntKind.i64.wrap ((p:Int)+1)=(x1:Int):=by rw[IntKind.wrap_i64];omega
 have m2:IntKind.i64.wrap ((x1:Int)+(F:Int))=(x2:Int):=by rw[IntKind.wrap_i64];omega
 have m3:IntKind.i64.wrap ((x2:Int)+(R:Int))=(x3:Int):=by rw[IntKind.wrap_i64];omega
 obtain⟨FS,hFS⟩: ∃FS,FS=ZkK s.objs s.ws p:=⟨_,rfl⟩
 obtain⟨RS,hRS⟩: ∃RS,RS=ZlF s.ws p:=⟨_,rfl⟩
 have hFP:(part s.ws x1 F).map (Zff s.objs)=FS:=by
  rw[ZhX _ _ _ (by omega),hFS,List.map_map];unfold ZkK;rw[hF];refine List.map_congr_left fun k hk=>?_;show Zff s.objs (wd s.ws (x1+k))=_;rw[show((p:Int)+1+(k:Nat)).toNat=x1+k by omega]
 have hRP:part s.ws x2 R=RS:=by
  rw[ZhX _ _ _ (by omega),hRS];unfold ZlF;rw[hRr,hF];refine List.map_congr_left fun k hk=>?_;rw[show((p:Int)+1+(F:Int)+(k:Nat)).toNat=x2+k by omega]
 have hPP: ∀x∈part s.ws x1 F,x<18446744073709551616∧leads s.objs x=true:=fun x hx=>by
  rw[ZhX _ _ _ (by omega)] at hx;obtain⟨k,hk,rfl⟩:=List.mem_map.1 hx;have hk':=List.mem_range.1 hk;refine⟨ZoT hok.ws _,?_⟩
  have:=Zdx Zf7 hp (k:=k) (by omega)
  rwa [show((p:Int)+1+(k:Nat)).toNat=x1+k by omega] at this
 have HTU:=ZZ (show ∀W',Only nob w W'→Calls Tryz.prog 29 #[ZcT Aw x1 x2 cw 1,.func (.func g) #[] lb] W' fun e w'=> ∃v',e=.returned v'∧w'.ownsRow W'.heap.size 63 2 v' FS.length (spc FS)∧Only nob W' w' from fun W' o=>by
  have h1:=ZhA (h.only o hB).words x1 F (by omega);rw[← hx2] at h1;have h2:=Zgm (ZcT Aw x1 x2 cw 1) (part s.ws x1 F) g lb _ _ B W' (ht.on o) h1 (Nat.le_trans hB o.size) (by rw[Zar _ _ _ (by omega)];omega) hPP
  rwa [hFP] at h2)
 have HCL:=ZZ (show ∀W',Only nob w W'→Calls Tryz.prog 53 #[ZcT Aw x2 x3 cw 1] W' fun e w'=> ∃v',e=.returned v'∧w'.ownsRow W'.heap.size 48 1 v' RS.length (u64s RS)∧Only nob W' w' from fun W' o=>by
  have h1:=ZhA (h.only o hB).words x2 R (by omega);rw[← hx3,hRP] at h1
  exact Zfc (ZcT Aw x2 x3 cw 1) RS B W' h1 (Nat.le_trans hB o.size) (by rw[← hRP,Zar _ _ _ (by omega)];omega))
 have HQ1:=ZZ (fun (w':World)=>Zg3 Aw s.ws.length cw x1 x2 (by omega) (by omega) w');have HQ2:=ZZ (fun (w':World)=>Zg3 Aw s.ws.length cw x2 x3 (by omega) (by omega) w');have HH:=ZZ (ZrK s (p:Int) _ _ _ _ B W (h.only OW.out hB) (Nat.le_trans hB OW.out.size) hok (hpar.old OW.out))
 obtain⟨Kd,hK⟩: ∃K,K=ohK s.ws p:=⟨_,rfl⟩
 obtain⟨Mk,hMk⟩: ∃M,M=ohM s.ws p:=⟨_,rfl⟩
 obtain⟨Cu,hCu⟩: ∃M,M=ohC s.ws p:=⟨_,rfl⟩
 obtain⟨Ye,hYe⟩: ∃M,M=ohE s.ws p:=⟨_,rfl⟩
 have HND:=ZZ (show liN s.objs s.ws p=⟨Kd,FS,RS⟩ by unfold liN;rw[hK,hFS,hRS]);rw[← hK, ← hMk, ← hCu, ← hYe,hF,hRr] at HH;rw[HND.out];obtain⟨c0,c1,c2,c3,c4,c5,c6,c7,c8,c9⟩:=SB.out;clear hW0 hW hsb hr hb1 hb2 hb3 hb4 hb5 hb6 hF hRr hx1 hx2 hx3 hl3 hlw hFS hRS hFP hRP hPP hK hMk hCu hYe h hB hok hpar Zf7 hp ht
 go_enter Tryz.func31,Tryz.ntmps31
 go_upto_region 1 with fail
 rw[HW0.out,HW.out, ← HSB.out]
 go_wp2_with fail
 go_at_call 63;refine HH.out.mono ?_;rintro e w2 ⟨rfl,o⟩;obtain⟨W2,hW2,HB2⟩:=ZV w2 Kd (F:Nat) (R:Nat) Mk Cu;have HW2:=ZZ hW2;have O2:=ZZ (OW.out.trans (o.trans HB2.out.1));have S2:=ZZ (SB.out.keep (o.trans HB2.out.1));have BN2:=ZZ (BN.out.keep (o.trans HB2.out.1) id)
 obtain⟨hb,hhb⟩: ∃q,q=w2.heap.size:=⟨_,rfl⟩
 have HHB:=ZZ hhb;have BH:=ZZ HB2.out.2;rw[← hhb] at BH
 have hne:sb+1<hb:=by have:=o.size;omega
 clear c0 c1 c2 c3 c4 c5 c6 c7 c8 c9 hW2 hhb o
 go_upto_region 2 with fail
 rw[HW2.out, ← HHB.out];have d1:W2.cell? ⟨hb,1,none⟩=some (.int .i64 (F:Nat)):=BH.out.cell 1;have d2:W2.cell? ⟨hb,2,none⟩=some (.int .i64 (R:Nat)):=BH.out.cell 2
 go_upto_region 5 with fail
 clear d1 d2 m1 m2 m3;have d0:W2.cell? ⟨hb,0,none⟩=some (.int .i64 Kd):=BH.out.cell 0;have c5:=S2.out.c5;have q1:=HQ1.out;have q2:=HQ2.out;have HN0:=ZZ (show Only nob W2 W2.drew from(Only.refl nob W2).drewN 1)
 go_region_held3 (fun w'=>w'.cell? ⟨hb,0,none⟩=some (.int .i64 Kd)∧w'.cell? ⟨sb,5,none⟩=some (.slice Aw s.ws.length cw))
  (first|(with_reducible exact C3.out)|(with_reducible exact C4.out)|(with_reducible exact And.intro (HN0.out.keeps d0) (HN0.out.keeps c5))|(with_reducible exact C5.out _ _ _)|go_keep)
  (first
    |(go_at_call 29
      with_reducible refine(HTU.out W2.drew (O2.out.trans HN0.out)).mono ?_
      rintro e w3 ⟨v1,rfl,own1,o3⟩;obtain⟨A1,k1,rfl, -⟩:=Zg own1;have F1:=ZZ own1;have O3:=ZZ (Only.drewL o3);have C3:=ZZ (And.intro (O3.out.keeps d0) (O3.out.keeps c5))
      clear own1 o3)
    |(go_at_call 53
      with_reducible refine(HCL.out w3 (O2.out.trans O3.out)).mono ?_
      rintro e w4 ⟨v2,rfl,own2,o4⟩;obtain⟨A2,k2,rfl, -⟩:=Zg own2;have F2:=ZZ own2;have O4:=ZZ o4;have C4:=ZZ (And.intro (o4.keeps C3.out.1) (o4.keeps C3.out.2));have BN4:=ZZ ((BN2.out.keep O3.out id).keep o4 id)
      have C5:=ZZ (show ∀x0 x1 x2:Value,(((w4.setCell ⟨sb+1,0,none⟩ x0).setCell ⟨sb+1,1,none⟩ x1).setCell ⟨sb+1,2,none⟩ x2).cell? ⟨hb,0,none⟩=some (.int .i64 Kd)∧(((w4.setCell ⟨sb+1,0,none⟩ x0).setCell ⟨sb+1,1,none⟩ x1).setCell ⟨sb+1,2,none⟩ x2).cell? ⟨sb,5,none⟩=some (.slice Aw s.ws.length cw) from fun x0 x1 x2=>by
       have oo:Only (isb (sb+1)) w4 _:=((Zc w4 (sb+1) 0 x0).trans (Zc _ _ 1 x1)).trans (Zc _ _ 2 x2);have l1:=BH.out.lt;have l2:=O3.out.size;have l3:=o4.size
       exact⟨(oo.cell (p:=⟨hb,0,none⟩) (by show hb<_;omega) (fun e=>by unfold isb at e;simp only at e;omega)).trans C4.out.1,(oo.cell (p:=⟨sb,5,none⟩) (by show sb<_;omega) (fun e=>by unfold isb at e;simp only at e;omega)).trans C4.out.2⟩)
      have y0:w4.cell? ⟨sb+1,0,none⟩=some (.int .i64 0):=BN4.out.cell 0;have y1:w4.cell? ⟨sb+1,1,none⟩=some (.slice none 0 0):=BN4.out.cell 1;have y2:w4.cell? ⟨sb+1,2,none⟩=some (.slice none 0 0):=BN4.out.cell 2;have z0:=BN4.out.free 0;have z1:=BN4.out.free 1;have z2:=BN4.out.free 2
      clear own2 o4))
 all_goals
  clear y0 y1 y2 z0 z1 z2;have O5:=ZZ (O2.out.trans (O3.out.trans O4.out));obtain⟨W5,hW5,o5,p5,b5⟩:=ZsP O5.out (Nat.le_of_lt (by rw[← HSB.out];exact Nat.lt_succ_self sb)) BN4.out (.int .i64 Kd) (.slice A1 FS.length k1) (.slice A2 RS.length k2)
  have hsz:w.heap.size≤w3.heap.size∧w.heap.size≤w4.heap.size:=⟨(O2.out.trans O3.out).size,O5.out.size⟩
  have hw2:sb+1<W2.heap.size:=BN2.out.lt;have hw23:=O3.out.size;have G1:=Zb (Zb F1.out O4.out fun _ _=>id) p5 (fun k e1 e2=>by unfold isb at e2;have h9:W2.drew.heap.size≤k:=(Zm F1.out e1).1;have h8:W2.drew.heap.size=W2.heap.size:=rfl;omega);have G2:=Zb F2.out p5 (fun k e1 e2=>by unfold isb at e2;have h9:=(Zm F2.out e1).1;omega);have HNO:=ZZ (show NdO W5 w.heap.size ⟨Kd,FS,RS⟩ ((.slice A1 FS.length k1),(.slice A2 RS.length k2)) from⟨Z1 G1 (fun k e1=>by have h9:W2.drew.heap.size≤k:=(Zm F1.out e1).1;have h8:W2.drew.heap.size=W2.heap.size:=rfl;have:=O2.out.size;omega),Z1 G2 (fun k e1=>by have h9:=(Zm F2.out e1).1;omega)⟩);rw[hW5];have r0:W5.cell? ⟨sb+1,0,none⟩=some (.int .i64 Kd):=b5.cell 0;have r1:W5.cell? ⟨sb+1,1,none⟩=some (.slice A1 FS.length k1):=b5.cell 1;have r2:W5.cell? ⟨sb+1,2,none⟩=some (.slice A2 RS.length k2):=b5.cell 2;go_wp2;refine bodyPost_ret (v:=.agg #[.int .i64 Kd,(.slice A1 FS.length k1),(.slice A2 RS.length k2)]) (by simp[results,Tryz.results31,go_sem,r0,r1,r2]) rfl ⟨_,_,rfl,HNO.out,o5⟩
end Go.Proofs.YteieocddfnlmdaaGreatDoor
