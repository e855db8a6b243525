/- The document's own answer for graphs: nodes in another order Chapter 16's example: its graphs, in plain words and in memo The law GraphTells: walked. -/
import Derived.Test.YteieocddfnlmdaaGreatDoorQ30
import Derived.Laws.Small
set_option maxRecDepth 100000
set_option maxHeartbeats 32000000
set_option linter.unusedSimpArgs false
set_option linter.unusedVariables false
namespace Go.Proofs.YteieocddfnlmdaaGreatDoor
open Go.RowKit Go.Lib
theorem Zkt (w:World) (vn vr:Value): ∃V,((w.alloc (.cells #[vn,vr] 34)).alloc (.cells #[.slice none 0 0,.slice none 0 0] 34))=V∧Hid (Only nob w V∧Blk V w.heap.size 34 #[vn,vr]∧Blk V (w.heap.size+1) 34 #[.slice none 0 0,.slice none 0 0]):=
 ⟨_,rfl,ZZ ⟨((Only.refl nob w).alloc _).alloc _,(Blk.new w _ _).alloc _,Blk.newAt _ _ _ _ (by simp)⟩⟩
theorem Za1 {W:World} {b:Nat} {a0 a1:Value} (B1:Blk W b 34 #[a0,a1]) (x0 x1:Value): ∃U,((W.setCell ⟨b,0,none⟩ x0).setCell ⟨b,1,none⟩ x1)=U∧Only (isb b) W U∧Blk U b 34 #[x0,x1]:=
 ⟨_,rfl,(Zd _ _ _ _).trans (Zd _ _ _ _),by simpa using(B1.put 0 x0).put 1 x1⟩
theorem ZqB {a b:Gr} (h:decide (a.rt=b.rt)=false):ZbM a b=false:=by
 cases e:ZbM a b with
 |false=>rfl
 |true=>exact absurd (Zbv.1 e).2 (of_decide_eq_false h)
theorem Zno {a b:Gr} (h:a.nd.length≠b.nd.length):ZbM a b=false:=by
 cases e:ZbM a b with
 |false=>rfl
 |true=>exact absurd (by rw[(Zbv.1 e).1]) h
theorem Zhb {a b:Gr} {k:Nat} {x y:Nd} (hx:a.nd[k]? =some x) (hy:b.nd[k]? =some y) (h:ZfQ x y=false):ZbM a b=false:=by
 cases e:ZbM a b with
 |false=>rfl
 |true=>
  have e2:=(Zbv.1 e).1;rw[e2,hy] at hx;rw[ZdQ.2 (Yp hx).symm] at h
  cases h
theorem ZpK {a b:Gr} (hl:a.nd.length=b.nd.length) (hr:decide (a.rt=b.rt)=true) (h: ∀(j:Nat) x,j<a.nd.length→a.nd[j]? =some x→b.nd[j]? =some x):ZbM a b=true:=
 Zbv.2 ⟨ZcU hl h,of_decide_eq_true hr⟩
theorem ZfC (w:World) (k k':Int) (fv rv fv' rv':Value): ∃V,((w.alloc (.cells #[.int .i64 k,fv,rv] 54)).alloc (.cells #[.int .i64 k',fv',rv'] 54)).drew=V∧Only nob w V∧Blk V w.heap.size 54 #[.int .i64 k,fv,rv]∧Blk V (w.heap.size+1) 54 #[.int .i64 k',fv',rv']:=by
 have h1:=(Blk.new w 54 #[.int .i64 k,fv,rv]).alloc (.cells #[.int .i64 k',fv',rv'] 54);have h2:=Blk.newAt (w.alloc (.cells #[.int .i64 k,fv,rv] 54)) 54 #[.int .i64 k',fv',rv'] (w.heap.size+1) (by simp);exact⟨_,rfl,(((Only.refl nob w).alloc _).alloc _).drewN 1,h1,h2⟩
theorem ZsZ:Zsb 14:=by
 intro g k vn vr un ur hs js B B' w hg hk hB hB' hf hf';have HG:=ZZ hg;have HK:=ZZ hk;have HVR:=ZZ (fun (w':World) (o:Only nob w w')=>Zkk vr ur g.rt k.rt B B' w' (hg.roots.below (o.below hB fun _ h=>h.elim)) (hk.roots.below (o.below hB' fun _ h=>h.elim)));obtain⟨A,c,rfl,hac,hcm⟩:=hg.nodes.form;obtain⟨Ar,cr,rfl, -⟩:=hg.roots.form;obtain⟨A',c',rfl,hac',hcm'⟩:=hk.nodes.form;obtain⟨Ar',cr',rfl, -⟩:=hk.roots.form;unfold maxLen at hcm hcm'
 obtain⟨V,hV,oV,gV,kV⟩: ∃V,((w.alloc (.cells #[.slice A g.nd.length c,.slice Ar g.rt.length cr] 34)).alloc (.cells #[.slice A' k.nd.length c',.slice Ar' k.rt.length cr'] 34))=V∧Only nob w V∧Blk V w.heap.size 34 #[.slice A g.nd.length c,.slice Ar g.rt.length cr]∧Blk V (w.heap.size+1) 34 #[.slice A' k.nd.length c',.slice Ar' k.rt.length cr']:=
  ⟨_,rfl,((Only.refl nob w).alloc _).alloc _,(Blk.new w _ _).alloc _,Blk.newAt _ _ _ _ (by simp)⟩
 have HV:=ZZ hV;have v0:V.cell? ⟨w.heap.size,0,none⟩=some (.slice A g.nd.length c):=gV.cell 0;have v1:V.cell? ⟨w.heap.size,1,none⟩=some (.slice Ar g.rt.length cr):=gV.cell 1;have u0:V.cell? ⟨w.heap.size+1,0,none⟩=some (.slice A' k.nd.length c'):=kV.cell 0;have u1:V.cell? ⟨w.heap.size+1,1,none⟩=some (.slice Ar' k.rt.length cr'):=kV.cell 1;have OV:=ZZ oV;have GV:=ZZ gV;have KV:=ZZ kV
 obtain⟨q,hq⟩: ∃q,q=ZbM g k:=⟨_,rfl⟩
 have HQ:=ZZ hq;rw[← hq];clear hV oV gV kV hq hg hk hf hf';by_cases hlen:g.nd.length=k.nd.length
 · have HL:=ZZ hlen
   obtain⟨n,hn⟩: ∃n,n=g.nd.length:=⟨_,rfl⟩
   have hn2:=hn.trans hlen;have HN1:=ZZ hn;have HN2:=ZZ hn2;rw[← hn] at HG hac HV v0 GV ⊢;rw[← hn2] at HK hac' HV u0 KV ⊢;clear hlen hn hn2
   go_enter Tryz.func14,Tryz.ntmps14
   go_upto_region 1 with fail
   rw[HV.out]
   go_wp2_with fail
   go_at_call 16;refine(HVR.out V OV.out).mono ?_
   cases hrt:decide (g.rt=k.rt) with
   |false=>
    have HN:=ZZ (show q=false from HQ.out.trans (ZqB hrt));clear hrt;rintro e w1 ⟨rfl,o1⟩;have O1:=ZZ (OV.out.trans o1);clear o1 v0 v1 u0 u1;go_wp2;go_ret;exact⟨Zb (by rw[HN.out]),O1.out⟩
   |true=>
    have HRT:=ZZ hrt;clear hrt;rintro e w1 ⟨rfl,o1⟩;have O1:=ZZ (OV.out.trans o1);have G1:=ZZ (GV.out.keep o1 id);have K1:=ZZ (KV.out.keep o1 id);clear o1 v0 v1 u0 u1
    go_wp2_with fail
    go_loopw [5,6,7] (fun i _ _ wr=> ∃m:Nat,m≤n∧i=.int .i64 m∧Hid (∀(j:Nat) x,j<m→g.nd[j]? =some x→k.nd[j]? =some x)∧Hid (Only nob w1 wr)) (fun i _ _ _=>n - (intOf i).toNat)
    case atStart=>exact⟨0,Yu _,rfl,fun j _ hj _=>absurd hj (Nat.not_lt_zero j),ZZ (Only.refl _ _)⟩
    case round=>
     obtain⟨m,hm,rfl,hno,HO⟩:=hrel;have g0:wr.cell? ⟨w.heap.size,0,none⟩=some (.slice A n c):=HO.out.keeps (G1.out.cell 0);have k0:wr.cell? ⟨w.heap.size+1,0,none⟩=some (.slice A' n c'):=HO.out.keeps (K1.out.cell 0);by_cases hlt:m<n
     · obtain⟨x,hx⟩: ∃x,g.nd[m]? =some x:=⟨_,Ya (by rw[← HN1.out];exact hlt)⟩
       obtain⟨y,hy⟩: ∃y,k.nd[m]? =some y:=⟨_,Ya (by rw[← HN2.out];exact hlt)⟩
       have RG:=HG.out;have RK:=HK.out;rw[HN1.out] at RG;rw[HN2.out] at RK;have OW:=ZZ (O1.out.trans HO.out);obtain⟨b1,o1,fv,rv,rfl, -, -,p0,p1,p2,hnd1⟩:=RG.at_ (OW.out.below hB fun _ h=>h.elim) hx;obtain⟨b2,o2,fv',rv',rfl, -, -,q0,q1,q2,hnd2⟩:=RK.at_ (OW.out.below hB' fun _ h=>h.elim) hy;have HX:=ZZ hx;have HY:=ZZ hy;have HF:=ZZ (fun (w':World) (o:Only nob wr w')=>Zkk fv fv' x.fs y.fs B B' w' (hnd1.fields.below (o.below (Yi hB OW.out.size) fun _ h=>h.elim)) (hnd2.fields.below (o.below (Yi hB' OW.out.size) fun _ h=>h.elim)));have HR:=ZZ (fun (w':World) (o:Only nob wr w')=>Zqe rv rv' x.rs y.rs B B' w' (hnd1.raws.below (o.below (Yi hB OW.out.size) fun _ h=>h.elim)) (hnd2.raws.below (o.below (Yi hB' OW.out.size) fun _ h=>h.elim)));obtain⟨Af,cf,hfv, -⟩:=hnd1.fields.form;obtain⟨Ar1,cr1,hrv, -⟩:=hnd1.raws.form;obtain⟨Af',cf',hfv', -⟩:=hnd2.fields.form;obtain⟨Ar1',cr1',hrv', -⟩:=hnd2.raws.form;simp only at hfv hrv hfv' hrv';subst hfv hrv hfv' hrv';have hcs:=ZfY x y
       obtain⟨sn,hsn⟩: ∃sn,sn=ZfQ x y:=⟨_,rfl⟩
       have HSN:=ZZ hsn
       obtain⟨kx,hkx⟩: ∃z,z=x.kd:=⟨_,rfl⟩
       obtain⟨ky,hky⟩: ∃z,z=y.kd:=⟨_,rfl⟩
       rw[← hkx] at p0;rw[← hky] at q0;rw[← hsn, ← hkx, ← hky] at hcs
       have hm0:(0:Int)≤(m:Int):=by omega
       have hm1:(m:Int)<(n:Int):=by omega
       clear hx hy hnd1 hnd2 hkx hky RG RK hsn
       go_upto_region 6 with fail
       go_cut [6,7] (fun s6 s7 wx=> ∃bx bY:Nat,s6=.pointer (some ⟨bx,0,none⟩)∧s7=.pointer (some ⟨bY,0,none⟩)∧Hid (Only nob wr wx∧Blk wx bx 54 #[.int .i64 kx,.slice Af x.fs.length cf,.slice Ar1 x.rs.length cr1]∧Blk wx bY 54 #[.int .i64 ky,.slice Af' y.fs.length cf',.slice Ar1' y.rs.length cr1']))
       case first=>
        have C1:=ZZ (And.intro g0 (And.intro k0 (And.intro p0 (And.intro p1 (And.intro p2 (And.intro q0 (And.intro q1 q2)))))))
        go_region_held3 (fun w'=>w'.cell? ⟨w.heap.size,0,none⟩=some (.slice (some ⟨b1,o1,none⟩) n c)∧w'.cell? ⟨w.heap.size+1,0,none⟩=some (.slice (some ⟨b2,o2,none⟩) n c')∧w'.cell? ⟨b1,o1+m * 3,none⟩=some (.int .i64 kx)∧w'.cell? ⟨b1,o1+m * 3+1,none⟩=some (.slice Af x.fs.length cf)∧w'.cell? ⟨b1,o1+m * 3+2,none⟩=some (.slice Ar1 x.rs.length cr1)∧w'.cell? ⟨b2,o2+m * 3,none⟩=some (.int .i64 ky)∧w'.cell? ⟨b2,o2+m * 3+1,none⟩=some (.slice Af' y.fs.length cf')∧w'.cell? ⟨b2,o2+m * 3+2,none⟩=some (.slice Ar1' y.rs.length cr1')) (first|(with_reducible exact C1.out)|go_keep) (fail)
        · obtain⟨W5,hW5,oX,bX,bY⟩:=ZfC wr kx ky (.slice Af x.fs.length cf) (.slice Ar1 x.rs.length cr1) (.slice Af' y.fs.length cf') (.slice Ar1' y.rs.length cr1')
          rw[hW5];clear hW5;go_wp2
          go_meet
          exact⟨_,_,rfl,rfl,ZZ ⟨oX,bX,bY⟩⟩
        · obtain⟨W5,hW5,oX,bY,bX⟩:=ZfC wr ky kx (.slice Af' y.fs.length cf') (.slice Ar1' y.rs.length cr1') (.slice Af x.fs.length cf) (.slice Ar1 x.rs.length cr1)
          rw[hW5];clear hW5;go_wp2
          go_meet
          exact⟨_,_,rfl,rfl,ZZ ⟨oX,bX,bY⟩⟩
       case rest=>
        obtain⟨bx,bY,rfl,rfl,HC⟩:=hcut
        obtain⟨W5,rfl⟩: ∃W5:World,W5=wc:=⟨_,rfl⟩
        have d0:W5.cell? ⟨bx,0,none⟩=some (.int .i64 kx):=HC.out.2.1.cell 0;have d1:W5.cell? ⟨bx,1,none⟩=some (.slice Af x.fs.length cf):=HC.out.2.1.cell 1;have d2:W5.cell? ⟨bx,2,none⟩=some (.slice Ar1 x.rs.length cr1):=HC.out.2.1.cell 2;have e0:W5.cell? ⟨bY,0,none⟩=some (.int .i64 ky):=HC.out.2.2.cell 0;have e1:W5.cell? ⟨bY,1,none⟩=some (.slice Af' y.fs.length cf'):=HC.out.2.2.cell 1;have e2:W5.cell? ⟨bY,2,none⟩=some (.slice Ar1' y.rs.length cr1'):=HC.out.2.2.cell 2;have OC:=ZZ (HO.out.trans HC.out.1);clear g0 k0 p0 p1 p2 q0 q1 q2
        rcases hcs with⟨h1,h2⟩|⟨rfl,h1,h2⟩|⟨rfl,h1,h2⟩
        · have HN:=ZZ (show q=false from HQ.out.trans (Zhb HX.out HY.out (HSN.out.symm.trans h2)))
          have hbq:(kx !=ky)=true:=by simpa using h1
          clear h1 h2;go_wp2;go_ret;exact⟨Zb (by rw[HN.out]),O1.out.trans OC.out⟩
        · have HN:=ZZ (show q=false from HQ.out.trans (Zhb HX.out HY.out (HSN.out.symm.trans h2)))
          rw[h1] at HF;clear h1 h2
          go_wp2_with fail
          go_at_call 16;refine(HF.out W5 HC.out.1).mono ?_;rintro e w6 ⟨rfl,o6⟩;have O6:=ZZ (OC.out.trans o6);clear o6 d0 d1 d2 e0 e1 e2;go_wp2;go_ret;exact⟨Zb (by rw[HN.out]),O1.out.trans O6.out⟩
        · rw[h1] at HF
          rw[← h2] at HR;have HSS:=ZZ HSN.out;clear h1 h2
          go_wp2_with fail
          go_at_call 16;refine(HF.out W5 HC.out.1).mono ?_;rintro e w6 ⟨rfl,o6⟩;have O6:=ZZ (OC.out.trans o6);have d2':=o6.keeps d2;have e2':=o6.keeps e2;have HC6:=ZZ (HC.out.1.trans o6);clear o6 d0 d1 d2 e0 e1 e2
          go_wp2_with fail
          go_at_call 41;refine(HR.out w6 HC6.out).mono ?_
          cases sn with
          |false=>
           have HN:=ZZ (show q=false from HQ.out.trans (Zhb HX.out HY.out HSS.out.symm));rintro e w7 ⟨rfl,o7⟩;have O7:=ZZ (O6.out.trans o7);clear o7 d2' e2';go_wp2;go_ret;exact⟨Zb (by rw[HN.out]),O1.out.trans O7.out⟩
          |true=>
           have HEQ:=ZZ (ZdQ.1 HSS.out.symm);rintro e w7 ⟨rfl,o7⟩;have O7:=ZZ (O6.out.trans o7);clear o7 d2' e2';go_wp2
           go_roundw
           case rel=>
            refine⟨m+1,by omega,by go_num,fun j z hj hz=>?_,O7⟩;rcases Yq j m with h'|h'
            · exact hno.out j z h' hz
            · obtain rfl:j=m:=by omega
              rw[HX.out] at hz;rw[HY.out, ← HEQ.out];exact hz
           case measure=>simp[intOf];omega
     · obtain rfl:m=n:=by omega
       have HN:=ZZ (show q=true from HQ.out.trans (ZpK HL.out HRT.out fun j x hj=>hno.out j x (by rw[HN1.out];exact hj)));go_wp2;go_ret;exact⟨Zb (by rw[HN.out]),O1.out.trans HO.out⟩
 · have HN:=ZZ (show q=false from HQ.out.trans (Zno hlen))
   have hn1: ¬((g.nd.length:Int)=(k.nd.length:Int)):=by omega
   go_enter Tryz.func14,Tryz.ntmps14
   go_upto_region 1 with fail
   rw[HV.out];go_wp2;go_ret;exact⟨Zb (by rw[HN.out]),OV.out⟩
theorem ZG (w:World) (vn vr:Value): ∃W,w.alloc (.cells #[vn,vr] 34)=W∧Hid (Only nob w W∧Blk W w.heap.size 34 #[vn,vr]):=⟨_,rfl,ZZ ⟨(Only.refl nob w).alloc _,Blk.new w _ _⟩⟩
theorem ZiD {o:List Int} {l:List Sp} (h:Zu5 l) (hl:o.length≤1000000):Zu5 (Zdw o l):=by
 intro v hv;obtain⟨x,hx,rfl⟩:=List.mem_map.1 hv;have hb:=h x hx;unfold Zf4
 split
 · refine⟨by omega,?_⟩
   by_cases hm:x.2∈o
   · have h1:o.idxOf x.2<o.length:=List.idxOf_lt_length_iff.2 hm
     show -9223372036854775808≤plc o x.2∧plc o x.2≤9223372036854775807;rw[ZgJ hm];omega
   · show -9223372036854775808≤plc o x.2∧plc o x.2≤9223372036854775807
     rw[ZnY hm];omega
 · exact hb
theorem ZuZ {g:Gr} {o:List Int} (h:GrFit g) (hl:o.length≤1000000):GrFit (rnG g o):=by
 unfold rnG
 split
 · rename_i h0
   have hp:=Zkx h (ZbV.1 (Zot.1 h0).ord).1;refine⟨fun d hd=>?_,fun d hd=>?_,fun d hd=>?_,ZiD h.rt hl⟩
   · obtain⟨x,hx,rfl⟩:=List.mem_map.1 hd;exact hp.kd x hx
   · obtain⟨x,hx,rfl⟩:=List.mem_map.1 hd;exact ZiD (hp.fs x hx) hl
   · obtain⟨x,hx,rfl⟩:=List.mem_map.1 hd;exact hp.rs x hx
 · exact⟨fun d hd=>by simp at hd,fun d hd=>by simp at hd,fun d hd=>by simp at hd,fun v hv=>by simp at hv⟩
theorem Zrf (g:Gr) (vn vr un ur:Value) (hs js:List (Value×Value)) (B B':Nat) (w:World) (h:RdG w B g vn vr hs) (k:RdG w B' g un ur js) (hB:B≤w.heap.size) (hB':B'≤w.heap.size) (hf:GrFit g):
 Calls Tryz.prog 14 #[.agg #[vn,vr],.agg #[un,ur]] w fun e w'=>e=.returned (.bool true)∧Only nob w w':=by
 have:=ZsZ g g vn vr un ur hs js B B' w h k hB hB' hf hf
 rwa [show ZbM g g=true from Ym rfl] at this
end Go.Proofs.YteieocddfnlmdaaGreatDoor
