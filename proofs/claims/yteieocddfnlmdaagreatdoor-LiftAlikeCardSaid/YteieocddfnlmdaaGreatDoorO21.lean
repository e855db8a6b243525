/- The document's own answer whether two heaps are the same. -/
import Derived.Test.YteieocddfnlmdaaGreatDoorO18
set_option maxRecDepth 100000
set_option maxHeartbeats 32000000
set_option linter.unusedSimpArgs false
set_option linter.unusedVariables false
namespace Go.Proofs.YteieocddfnlmdaaGreatDoor
section
open Go.RowKit
section
variable {s:St}
theorem Zrw (h: ¬s.cf.ok):Zal s=1:=by unfold Zal;rw[if_neg h]
theorem Zr6 (h1:s.cf.ok) (h: ¬(s.ws.length:Int)=Zs s.cf):Zal s=2:=by unfold Zal;rw[if_pos h1,if_neg h]
theorem ZoW (h1:s.cf.ok) (h2:(s.ws.length:Int)=Zs s.cf) (h:r3 s=false):Zal s=3:=by unfold Zal;rw[if_pos h1,if_pos h2,if_neg (by rw[h];decide)]
theorem ZoV (h1:s.cf.ok) (h2:(s.ws.length:Int)=Zs s.cf) (h3:r3 s=true) (h: ¬wkE s.steps=0):Zal s=4:=by unfold Zal;rw[if_pos h1,if_pos h2,if_pos h3,if_neg h]
theorem ZoF (h1:s.cf.ok) (h2:(s.ws.length:Int)=Zs s.cf) (h3:r3 s=true) (h4:wkE s.steps=0) (h:r5 s=false):Zal s=5:=by unfold Zal;rw[if_pos h1,if_pos h2,if_pos h3,if_pos h4,if_neg (by rw[h];decide)]
theorem Zrx (h1:s.cf.ok) (h2:(s.ws.length:Int)=Zs s.cf) (h3:r3 s=true) (h4:wkE s.steps=0) (h5:r5 s=true) (h:r6 s=false):Zal s=6:=by unfold Zal;rw[if_pos h1,if_pos h2,if_pos h3,if_pos h4,if_pos h5,if_neg (by rw[h];decide)]
theorem ZrH (h1:s.cf.ok) (h2:(s.ws.length:Int)=Zs s.cf) (h3:r3 s=true) (h4:wkE s.steps=0) (h5:r5 s=true) (h6:r6 s=true) (h:r7 s=false):Zal s=7:=by unfold Zal;rw[if_pos h1,if_pos h2,if_pos h3,if_pos h4,if_pos h5,if_pos h6,if_neg (by rw[h];decide)]
theorem ZrQ (h1:s.cf.ok) (h2:(s.ws.length:Int)=Zs s.cf) (h3:r3 s=true) (h4:wkE s.steps=0) (h5:r5 s=true) (h6:r6 s=true) (h7:r7 s=true) (h:r8 s=false):Zal s=8:=by unfold Zal;rw[if_pos h1,if_pos h2,if_pos h3,if_pos h4,if_pos h5,if_pos h6,if_pos h7,if_neg (by rw[h];decide)]
theorem ZrR (h1:s.cf.ok) (h2:(s.ws.length:Int)=Zs s.cf) (h3:r3 s=true) (h4:wkE s.steps=0) (h5:r5 s=true) (h6:r6 s=true) (h7:r7 s=true) (h8:r8 s=true) (h:r9 s=false):Zal s=9:=by unfold Zal;rw[if_pos h1,if_pos h2,if_pos h3,if_pos h4,if_pos h5,if_pos h6,if_pos h7,if_pos h8,if_neg (by rw[h];decide)]
theorem Zlc (h4:wkE s.steps=0) (h6:r6 s=true) {p:Int} (hp:p∈s.objs):ohE s.ws p=0:=by
 unfold St.objs at hp;rcases Yr.1 hp with hp|hp
 · exact Zd0 h4 hp
 · obtain⟨x,hx,rfl⟩:=List.mem_map.1 hp
   unfold r6 at h6;rw[Bool.and_eq_true,List.all_eq_true] at h6
   have:=h6.2 x hx
   unfold big at this;rw[Bool.and_eq_true,decide_eq_true_iff] at this;exact this.1
end
def ZnU (all:List Int) (t:Slt):Bool:=!t.1||leads all t.2.2
theorem Zss {p:Nat→Bool} {n j:Nat} (hj:j<n) (h:p j=false):(List.range n).all p=false:=by
 rw[List.all_eq_false];exact⟨j,List.mem_range.2 hj,by rw[h];simp⟩
theorem Zrf {p:Nat→Bool} {n:Nat} (h: ∀m,m<n→p m=true):(List.range n).all p=true:=by
 rw[List.all_eq_true];exact fun m hm=>h m (List.mem_range.1 hm)
theorem ZpW:ZoL 35:=by
 intro s vw vt vf vs B w h hB hok hpar;have HR:=ZZ h;have HOK:=ZZ hok;obtain⟨At,ct,rfl,hat,hct⟩:=h.tab.form;obtain⟨Aw,cw,rfl,haw,hcw⟩:=h.words.form;obtain⟨Al,cl,rfl,hal,hcl⟩:=h.slots.form;unfold maxLen at hct hcw hcl;have hfew:=hok.few;have htp:=hok.top;unfold I64 at htp;obtain⟨W,hW,HB⟩:=Zu w s (.slice Aw s.ws.length cw) (.slice At s.tb.length ct) vf (.slice Al s.sl.length cl);have HW:=ZZ hW
 obtain⟨p,hp⟩: ∃p,p=w.heap.size:=⟨_,rfl⟩
 have HBX:=ZZ HB.out.2.2;rw[← hp] at HBX;have HP:=ZZ hp;have hfb:=Zd7 s;have HCK:=ZZ (fun w=>Zcu s.cf w);have HCW:=ZZ (fun w=>ZiN s.cf w);have HFR:=ZZ (show ∀w,Calls Tryz.prog 69 #[.agg #[.int .i64 s.cf.semi,.int .i64 s.cf.large,.int .i64 s.cf.slots,.int .i64 s.cf.limit],.bool s.sec] w fun e w'=>e=.returned (.agg #[.int .i64 s.frm.1,.int .i64 s.frm.2])∧Only nob w w' from fun w=>ZfN s.cf s.sec w)
 have HWK:=ZZ (show ∀W',Only nob w W'→Calls Tryz.prog 70 #[.slice Aw s.ws.length cw,.agg #[.int .i64 s.frm.1,.int .i64 s.frm.2],.int .i64 s.top] W' fun e w'=> ∃v',e=.returned (.tuple #[v',.int .i64 (wkP s.steps s.top),.int .i64 (wkE s.steps)])∧Sl w' w'.heap.size 1 v' s.smalls.length (i64s s.smalls)∧Only nob W' w' from fun W' o=>by
  refine(ZtJ _ B s.ws (ZR s.cf s.sec) s.top W' (HR.out.words.below (o.below hB fun _ h=>h.elim)) (Yi hB o.size) HOK.out.ws HOK.out.few.1).mono ?_;rintro e w' ⟨v',rfl,hO,o3⟩
  exact⟨v',rfl,Sl.of_own hO (by rw[ZdJ,Nat.mul_one]),o3⟩)
 have HLG:=ZZ (show ∀W',Only nob w W'→Calls Tryz.prog 73 #[.agg #[.int .i64 s.cf.semi,.int .i64 s.cf.large,.int .i64 s.cf.slots,.int .i64 s.cf.limit,.bool s.sec,.slice Aw s.ws.length cw,.int .i64 s.top,.slice At s.tb.length ct,vf,.slice Al s.sl.length cl]] W' fun e w'=>e=.returned (.bool (r6 s))∧Only nob W' w' from fun W' o=>ZpY s _ _ _ _ B W' (HR.out.only o hB) (Yi hB o.size) HOK.out)
 have HAL:=ZZ (show ∀W',Only nob w W'→Calls Tryz.prog 64 #[.agg #[.int .i64 s.cf.semi,.int .i64 s.cf.large,.int .i64 s.cf.slots,.int .i64 s.cf.limit,.bool s.sec,.slice Aw s.ws.length cw,.int .i64 s.top,.slice At s.tb.length ct,vf,.slice Al s.sl.length cl]] W' fun e w'=> ∃v',e=.returned v'∧Sl w' w'.heap.size 1 v' s.objs.length (i64s s.objs)∧Only nob W' w' from fun W' o=>by
  refine(ZrX s _ _ _ _ B W' (HR.out.only o hB) (Yi hB o.size) HOK.out).mono ?_;rintro e w' ⟨v',rfl,hO,o3⟩
  exact⟨v',rfl,Sl.of_own hO (by rw[ZdJ,Nat.mul_one]),o3⟩)
 have HRT:=ZZ (show ∀W',Only nob w W'→Calls Tryz.prog 74 #[.slice Al s.sl.length cl,.int .i64 s.cf.slots] W' fun e w'=>e=.returned (.bool (r7 s))∧Only nob W' w' from fun W' o=>Zrl _ s.sl s.cf.slots B W' (HR.out.slots.below (o.below hB fun _ h=>h.elim)) (Yi hB o.size) (by omega) HOK.out.sl)
 obtain⟨q,hq⟩: ∃q,q=Zal s:=⟨_,rfl⟩
 have HQ:=ZZ hq;rw[← hq];obtain⟨c0,c1,c2,c3,c4,c5,c6,c7,c8,c9⟩:=HBX.out;clear h hok hW hp hq
 go_enter Tryz.func35,Tryz.ntmps35
 go_upto_region 1 with fail
 rw[HW.out, ← HP.out]
 go_wp2_with fail
 go_at_call 67;refine(HCK.out _).mono ?_;by_cases h1:s.cf.ok
 case neg=>
  rw[Yl h1];rintro e w1 ⟨rfl,o⟩;have O1:=ZZ (HB.out.1.trans o);have HF:=ZZ (HQ.out.trans (Zrw h1));clear o c0 c1 c2 c3 c4 c5 c6 c7 c8 c9 h1;go_wp2;go_ret;exact⟨ZS (by rw[HF.out]),O1.out⟩
 case pos=>
 rw[Ym h1];have H1:=ZZ h1;rintro e w1 ⟨rfl,o⟩;have O1:=ZZ (HB.out.1.trans o);have X1:=ZZ (HBX.out.keep o);clear o c0 c1 c2 c3 c4 c5 c6 c7 c8 c9 h1;obtain⟨c0,c1,c2,c3,c4,c5,c6,c7,c8,c9⟩:=X1.out.all
 go_wp2_with fail
 by_cases h2:(s.ws.length:Int)=Zs s.cf
 case neg=>
  have HF:=ZZ (HQ.out.trans (Zr6 H1.out h2))
  have hbq:((s.ws.length:Int) !=Zs s.cf)=true:=by simpa using h2
  clear h2;refine Ze ZK (by kernel_rfl) ?_
  repeat (with_reducible refine wpQuiet_step ?_;intro K hK;go_simp;first|(with_reducible refine hK _ ?_;clear hK K)|(apply Exists.intro;with_reducible refine⟨fun _=>?_,hK _ ?_⟩;(first|(go_at_call 68;with_reducible refine Zg (HCW.out _)));clear hK K))
  refine wpQuiet_nil ?_;rintro w' ⟨⟨nq,osq⟩,rfl⟩;obtain⟨W2,hW2,QW2⟩:=Zn w1 nq osq;rw[hW2];clear hW2;have O2:=ZZ (O1.out.trans QW2);clear QW2 c0 c1 c2 c3 c4 c5 c6 c7 c8 c9;go_wp2;go_ret;exact⟨ZS (by rw[HF.out]),O2.out⟩
 case pos=>
 have H2:=ZZ h2
 have hbq:((s.ws.length:Int) !=Zs s.cf)=false:=by simpa using h2
 clear h2;refine Ze ZK (by kernel_rfl) ?_
 repeat (with_reducible refine wpQuiet_step ?_;intro K hK;go_simp;first|(with_reducible refine hK _ ?_;clear hK K)|(apply Exists.intro;with_reducible refine⟨fun _=>?_,hK _ ?_⟩;(first|(go_at_call 68;with_reducible refine Zg (HCW.out _)));clear hK K))
 refine wpQuiet_nil ?_;rintro w' ⟨⟨nq,osq⟩,rfl⟩;obtain⟨W2,hW2,QW2⟩:=Zn w1 nq osq;rw[hW2];clear hW2;have O2:=ZZ (O1.out.trans QW2.out);have X2:=ZZ (X1.out.keep QW2.out);clear QW2 c0 c1 c2 c3 c4 c5 c6 c7 c8 c9 hbq;obtain⟨c0,c1,c2,c3,c4,c5,c6,c7,c8,c9⟩:=X2.out
 go_wp2_with fail
 go_at_call 69;refine(HFR.out _).mono ?_;rintro e w3 ⟨rfl,o⟩
 obtain⟨a,ha⟩: ∃a,a=s.frm.1:=⟨_,rfl⟩
 obtain⟨n,hn⟩: ∃n,n=s.frm.2:=⟨_,rfl⟩
 have HAN:=ZZ (And.intro ha hn);rw[← ha, ← hn] at hfb HWK ⊢;obtain⟨W3,hW3,HB3⟩:=ZbO w3 a n;have HW3:=ZZ hW3;have oo:=o.trans HB3.out.1;have O3:=ZZ (O2.out.trans oo);have X3:=ZZ (X2.out.keep oo);clear o oo hW3 ha hn c0 c1 c2 c3 c4 c5 c6 c7 c8 c9
 go_upto_region 6 with fail
 rw[HW3.out];obtain⟨c0,c1,c2,c3,c4,c5,c6,c7,c8,c9⟩:=X3.out;obtain⟨-, -,d0,d1⟩:=HB3.out;by_cases h3:a≤s.top
 case neg=>
  have HF:=ZZ (HQ.out.trans (ZoW H1.out H2.out (Yl (by rw[← HAN.out.1, ← HAN.out.2];exact fun h=>h3 h.1))));go_wp2;go_ret;exact⟨ZS (by rw[HF.out]),O3.out⟩
 case pos=>
 by_cases h3':s.top≤a+n
 case neg=>
  have HF:=ZZ (HQ.out.trans (ZoW H1.out H2.out (Yl (by rw[← HAN.out.1, ← HAN.out.2];exact fun h=>h3' h.2))));go_wp2;go_ret;exact⟨ZS (by rw[HF.out]),O3.out⟩
 case pos=>
 have H3:=ZZ (show r3 s=true from Ym (by rw[← HAN.out.1, ← HAN.out.2];exact⟨h3,h3'⟩))
 go_wp2_with fail
 go_at_call 70;refine(HWK.out _ O3.out).mono ?_;rintro e w4 ⟨v4,rfl,hs4,o⟩
 obtain⟨z4,hz4⟩: ∃z,z=wkE s.steps:=⟨_,rfl⟩
 have HZ4:=ZZ hz4;rw[← hz4];have O4:=ZZ (O3.out.trans o);have X4:=ZZ (X3.out.keep o);have S4:=ZZ hs4;obtain⟨A4,c44,rfl,hc4,hm4⟩:=hs4.form;unfold maxLen at hm4;clear o hs4 hz4 h3 h3' c0 c1 c2 c3 c4 c5 c6 c7 c8 c9 d0 d1;by_cases h4:z4=0
 case neg=>
  have HF:=ZZ (HQ.out.trans (ZoV H1.out H2.out H3.out (by rw[← HZ4.out];exact h4)))
  have hbq:(z4 !=0)=true:=by simpa using h4
  clear h4;go_wp2;go_ret;exact⟨ZS (by rw[HF.out]),O4.out⟩
 case pos=>
 subst h4;have H4:=ZZ HZ4.out.symm;have hsm:=ZaB s
 go_wp2_with fail
 go_loopw [7] (fun i wr=> ∃k:Nat,k≤s.smalls.length∧i=.int .i64 k∧Hid (∀(j:Nat) y,j<k→s.smalls[j]? =some y→low s.cf s.ws y=true)∧Hid (Only nob w wr∧Only nob w4 wr∧SBox wr p s (.slice Aw s.ws.length cw) (.slice At s.tb.length ct) vf (.slice Al s.sl.length cl))) (fun i _=>s.smalls.length - (intOf i).toNat)
 case atStart=>exact⟨0,Yu _,rfl,ZZ (fun j _ hj _=>absurd hj (Nat.not_lt_zero j)),ZZ ⟨O4.out,Only.refl _ _,X4.out⟩⟩
 case round=>
 obtain⟨k,hk,rfl,HNO,HO⟩:=hrel;by_cases hlt:k<s.smalls.length
 case pos=>
  obtain⟨x0,hx⟩: ∃x,s.smalls[k]? =some x:=⟨_,Ya hlt⟩
  obtain⟨bt,ot,rfl,hbt,t0⟩:=ZbE S4.out HO.out.2.1.whole hx;have HX:=ZZ hx;have h0:ohE s.ws x0=0:=Zd0 H4.out (Yo hx);have HE0:=ZZ h0
  obtain⟨K,hK⟩: ∃K,K=ohK s.ws x0:=⟨_,rfl⟩
  obtain⟨F,hF⟩: ∃F,F=ohF s.ws x0:=⟨_,rfl⟩
  obtain⟨R,hR⟩: ∃R,R=ohR s.ws x0:=⟨_,rfl⟩
  obtain⟨M,hM⟩: ∃M,M=ohM s.ws x0:=⟨_,rfl⟩
  obtain⟨C,hC⟩: ∃C,C=ohC s.ws x0:=⟨_,rfl⟩
  obtain⟨E,hE⟩: ∃E,E=ohE s.ws x0:=⟨_,rfl⟩
  have HHD:=ZZ (show ∀W',Only nob wr W'→Calls Tryz.prog 33 #[.slice Aw s.ws.length cw,.int .i64 x0] W' fun e w'=>e=.returned (.tuple #[.agg #[.int .i64 K,.int .i64 F,.int .i64 R,.bool M,.int .i64 C],.int .i64 E])∧Only nob W' w' from fun W' o=>by
   have o2:=HO.out.1.trans o;rw[hE,hK,hF,hR,hM,hC]
   exact ZcF _ B s.ws x0 W' (HR.out.words.below (o2.below hB fun _ h=>h.elim)) (Yi hB o2.size) HOK.out.ws HOK.out.few.1)
  obtain⟨Z,hZ⟩: ∃Z,Z=osz (hAr s.ws) x0:=⟨_,rfl⟩
  have HSZ:=ZZ (show ∀W',Calls Tryz.prog 66 #[.agg #[.int .i64 K,.int .i64 F,.int .i64 R,.bool M,.int .i64 C]] W' fun e w'=>e=.returned (.int .i64 Z)∧Only nob W' w' from fun W'=>by
   have:=ZaL K F R M C W'
   rw[hK,hF,hR,hC] at this ⊢;rw[Zlb s.ws x0 HE0.out, ← hZ] at this
   exact this)
  have HQT:=ZZ (fun W=>Zlo K F R M C W)
  obtain⟨I,hI⟩: ∃I,I=Zit M C:=⟨_,rfl⟩
  rw[← hI] at HQT;have HSM:=ZZ (fun W=>Zes s.cf Z W)
  obtain⟨S,hS⟩: ∃S,S=ZaC s.cf Z:=⟨_,rfl⟩
  rw[← hS] at HSM;have HLW:=ZZ (show low s.cf s.ws x0=(I&&S) by rw[hI,hS,hZ,hM,hC];rfl);have c5:=HO.out.2.2.c5;clear hx h0 hE hK hF hR hM hC hZ hI hS;have HN0:=ZZ (show Only nob wr wr.drew from(Only.refl nob wr).drewN 1);have HN1:=ZZ (show Only nob wr (wr.alloc (.cells #[.int .i64 0,.int .i64 0,.int .i64 0,.bool false,.int .i64 0] 72)).drew from((Only.refl nob wr).alloc _).drewN 1)
  go_upto_region 14 with fail
  go_cut [8] (fun sp wx=> ∃bq:Nat,sp=.pointer (some ⟨bq,0,none⟩)∧Hid (Only nob wr wx∧Blk wx bq 72 #[.int .i64 K,.int .i64 F,.int .i64 R,.bool M,.int .i64 C]))
  case first=>
   go_region_held3 (fun w'=>w'.cell? ⟨p,5,none⟩=some (.slice Aw s.ws.length cw)∧w'.cell? ⟨bt,ot+k,none⟩=some (.int .i64 x0)) (first|(with_reducible exact C1.out)|(with_reducible exact And.intro ((O3.out.alloc _).keeps c5) ((O3.out.alloc _).keeps t0))|(with_reducible exact And.intro (HN0.out.keeps c5) (HN0.out.keeps t0))|(with_reducible exact And.intro (((Only.refl nob wr).alloc _).keeps c5) (((Only.refl nob wr).alloc _).keeps t0))|go_keep|with_reducible exact And.intro ((only_five O3.out (Yj _) _ _ _ _ _).keeps c5) ((only_five O3.out (Yj _) _ _ _ _ _).keeps t0))
    ((go_at_call 33
      first
      |(with_reducible refine(HHD.out wr.drew HN0.out).mono ?_
        rintro e w3 ⟨rfl,o⟩;have O3:=ZZ o.drewL;have TA:=True.intro;have C1:=ZZ (And.intro (O3.out.keeps c5) (O3.out.keeps t0))
        clear o)
      |(with_reducible refine(HHD.out (wr.alloc (.cells #[.int .i64 0,.int .i64 0,.int .i64 0,.bool false,.int .i64 0] 72)).drew HN1.out).mono ?_
        rintro e w3 ⟨rfl,o⟩;have O3:=ZZ (((Only.refl nob wr).alloc (.cells #[.int .i64 0,.int .i64 0,.int .i64 0,.bool false,.int .i64 0] 72)).trans o.drewL);have BZ:=ZZ ((Blk.new wr 72 #[.int .i64 0,.int .i64 0,.int .i64 0,.bool false,.int .i64 0]).keep o.drewL id);have TB:=True.intro;obtain⟨y0,y1,y2,y3,y4⟩:=Zj BZ.out;obtain⟨z0,z1,z2,z3,z4⟩:=ZaG BZ.out;have C1:=ZZ (And.intro (O3.out.keeps c5) (O3.out.keeps t0))
        clear o)))
   all_goals
    first
    |(clear TA
      obtain⟨W5,hW5,HBX⟩:=Zz w3 K F R M C;have HW5:=ZZ hW5;clear hW5;rw[HW5.out];go_wp2
      go_meet
      exact⟨_,rfl,ZZ ⟨O3.out.trans HBX.out.1,HBX.out.2⟩⟩)
    |(clear TB y0 y1 y2 y3 y4 z0 z1 z2 z3 z4
      obtain⟨W5,hW5,OX,BX⟩:=Zbw O3.out (Yj _) BZ.out (.int .i64 K) (.int .i64 F) (.int .i64 R) (.bool M) (.int .i64 C);rw[hW5];go_wp2
      go_meet
      exact⟨_,rfl,ZZ ⟨OX,BX⟩⟩)
  case rest=>
  obtain⟨bq,rfl,HC5⟩:=hcut
  obtain⟨W5,rfl⟩: ∃W5:World,W5=wc:=⟨_,rfl⟩
  have HO5:=ZZ (HO.out.1.trans HC5.out.1);have HP5:=ZZ (HO.out.2.1.trans HC5.out.1);have HX5:=ZZ (HO.out.2.2.keep HC5.out.1);obtain⟨h0,h1,h2,h3,h4⟩:=ZdA HC5.out.2;obtain⟨D0,D1,D2,D3,D4,D5,D6,D7,D8,D9⟩:=HX5.out.all;clear c5 t0
  go_wp2_with fail
  cases I with
  |false=>
   have HF:=ZZ (HQ.out.trans (ZoF H1.out H2.out H3.out H4.out (Zaz HX.out (HLW.out.trans (by simp)))));refine Ze ZK (by kernel_rfl) ?_
   repeat (with_reducible refine wpQuiet_step ?_;intro K hK;go_simp;first|(with_reducible refine hK _ ?_;clear hK K)|(apply Exists.intro;with_reducible refine⟨fun _=>?_,hK _ ?_⟩;(first|(go_at_call 66;with_reducible refine Zg (HSZ.out _))|(go_at_call 71;with_reducible refine Zg (HQT.out _))|(go_at_call 72;with_reducible refine Zg (HSM.out _)));clear hK K))
   refine wpQuiet_nil ?_;rintro w' ⟨⟨nq,osq⟩,rfl⟩;obtain⟨W6,hW6,QW6⟩:=Zn W5 nq osq;rw[hW6];clear hW6;have O6:=ZZ (HO5.out.trans QW6.out);have P6:=ZZ (HP5.out.trans QW6.out);have X6:=ZZ (HX5.out.keep QW6.out);clear QW6 h0 h1 h2 h3 h4 D0 D1 D2 D3 D4 D5 D6 D7 D8 D9;go_wp2;go_ret;exact⟨ZS (by rw[HF.out]),O6.out⟩
  |true=>
   cases S with
   |false=>
    have HF:=ZZ (HQ.out.trans (ZoF H1.out H2.out H3.out H4.out (Zaz HX.out (HLW.out.trans (by simp)))));refine Ze ZK (by kernel_rfl) ?_
    repeat (with_reducible refine wpQuiet_step ?_;intro K hK;go_simp;first|(with_reducible refine hK _ ?_;clear hK K)|(apply Exists.intro;with_reducible refine⟨fun _=>?_,hK _ ?_⟩;(first|(go_at_call 66;with_reducible refine Zg (HSZ.out _))|(go_at_call 71;with_reducible refine Zg (HQT.out _))|(go_at_call 72;with_reducible refine Zg (HSM.out _)));clear hK K))
    refine wpQuiet_nil ?_;rintro w' ⟨⟨nq,osq⟩,rfl⟩;obtain⟨W6,hW6,QW6⟩:=Zn W5 nq osq;rw[hW6];clear hW6;have O6:=ZZ (HO5.out.trans QW6.out);have P6:=ZZ (HP5.out.trans QW6.out);have X6:=ZZ (HX5.out.keep QW6.out);clear QW6 h0 h1 h2 h3 h4 D0 D1 D2 D3 D4 D5 D6 D7 D8 D9;go_wp2;go_ret;exact⟨ZS (by rw[HF.out]),O6.out⟩
   |true=>
    have HN2:=ZZ (Zar HNO.out HX.out (HLW.out.trans (by simp)));refine Ze ZK (by kernel_rfl) ?_
    repeat (with_reducible refine wpQuiet_step ?_;intro K hK;go_simp;first|(with_reducible refine hK _ ?_;clear hK K)|(apply Exists.intro;with_reducible refine⟨fun _=>?_,hK _ ?_⟩;(first|(go_at_call 66;with_reducible refine Zg (HSZ.out _))|(go_at_call 71;with_reducible refine Zg (HQT.out _))|(go_at_call 72;with_reducible refine Zg (HSM.out _)));clear hK K))
    refine wpQuiet_nil ?_;rintro w' ⟨⟨nq,osq⟩,rfl⟩;obtain⟨W6,hW6,QW6⟩:=Zn W5 nq osq;rw[hW6];clear hW6;have O6:=ZZ (HO5.out.trans QW6.out);have P6:=ZZ (HP5.out.trans QW6.out);have X6:=ZZ (HX5.out.keep QW6.out);clear QW6 h0 h1 h2 h3 h4 D0 D1 D2 D3 D4 D5 D6 D7 D8 D9;go_wp2
    go_roundw
    case rel=>exact⟨k+1,by omega,by go_num,HN2,ZZ ⟨O6.out,P6.out,X6.out⟩⟩
    case measure=>simp[intOf];omega
 case neg=>
 obtain rfl:k=s.smalls.length:=by omega
 have H5:=ZZ (show r5 s=true from Zbz HNO.out)
 obtain⟨w5,rfl⟩: ∃w5:World,w5=wr:=⟨_,rfl⟩
 have O5:=ZZ HO.out.1;have X5:=ZZ HO.out.2.2;clear HNO HO hlt hk;obtain⟨c0,c1,c2,c3,c4,c5,c6,c7,c8,c9⟩:=X5.out
 go_wp2_with fail
 go_at_call 73;refine(HLG.out _ O5.out).mono ?_;rintro e w6 ⟨rfl,o⟩;have O6:=ZZ (O5.out.trans o);have X6:=ZZ (X5.out.keep o);clear o c0 c1 c2 c3 c4 c5 c6 c7 c8 c9
 cases h6:r6 s
 case false=>
  have HF:=ZZ (HQ.out.trans (Zrx H1.out H2.out H3.out H4.out H5.out h6));clear h6;go_wp2;go_ret;exact⟨ZS (by rw[HF.out]),O6.out⟩
 case true=>
 have H6:=ZZ h6;clear h6;obtain⟨c0,c1,c2,c3,c4,c5,c6,c7,c8,c9⟩:=X6.out
 go_wp2_with fail
 go_at_call 74;refine(HRT.out _ O6.out).mono ?_;rintro e w7 ⟨rfl,o⟩;have O7:=ZZ (O6.out.trans o);have X7:=ZZ (X6.out.keep o);clear o c0 c1 c2 c3 c4 c5 c6 c7 c8 c9
 cases h7:r7 s
 case false=>
  have HF:=ZZ (HQ.out.trans (ZrH H1.out H2.out H3.out H4.out H5.out H6.out h7));clear h7;go_wp2;go_ret;exact⟨ZS (by rw[HF.out]),O7.out⟩
 case true=>
 have H7:=ZZ h7;clear h7;obtain⟨c0,c1,c2,c3,c4,c5,c6,c7,c8,c9⟩:=X7.out
 go_wp2_with fail
 go_at_call 64;refine(HAL.out _ O7.out).mono ?_;rintro e w8 ⟨v8,rfl,hs8,o⟩;have O8:=ZZ (O7.out.trans o);have X8:=ZZ (X7.out.keep o);have S8:=ZZ hs8;obtain⟨A8,c88,rfl,hc8,hm8⟩:=hs8.form;unfold maxLen at hm8
 have hob:s.objs.length≤40000:=by
  have h1:=ZaB s;unfold St.objs;rw[Ys,List.length_map];omega
 clear o hs8 c0 c1 c2 c3 c4 c5 c6 c7 c8 c9
 go_wp2_with fail
 go_loopw [11] (fun i wr=> ∃k:Nat,k≤s.objs.length∧i=.int .i64 k∧Hid (∀(j:Nat) y,j<k→s.objs[j]? =some y→Zck s.objs s.ws y=true)∧Hid (Only nob w wr∧Only nob w8 wr∧SBox wr p s (.slice Aw s.ws.length cw) (.slice At s.tb.length ct) vf (.slice Al s.sl.length cl))) (fun i _=>s.objs.length - (intOf i).toNat)
 case atStart=>exact⟨0,Yu _,rfl,ZZ (fun j _ hj _=>absurd hj (Nat.not_lt_zero j)),ZZ ⟨O8.out,Only.refl _ _,X8.out⟩⟩
 case round=>
 obtain⟨k,hk,rfl,HNO,HO⟩:=hrel;by_cases hlt:k<s.objs.length
 case pos=>
  obtain⟨x0,hx⟩: ∃x,s.objs[k]? =some x:=⟨_,Ya hlt⟩
  obtain⟨bt,ot,rfl,hbt,t0⟩:=ZbE S8.out HO.out.2.1.whole hx;have HX:=ZZ hx;have h0:ohE s.ws x0=0:=Zlc H4.out H6.out (Yo hx);obtain⟨xn,hxn,hob0⟩:=Zqz h0;have hxl:xn<s.ws.length:=hob0.there;have hbn:=Zaq h0
  obtain⟨K,hK⟩: ∃K,K=ohK s.ws x0:=⟨_,rfl⟩
  obtain⟨F,hF⟩: ∃F,F=ohF s.ws x0:=⟨_,rfl⟩
  obtain⟨R,hR⟩: ∃R,R=ohR s.ws x0:=⟨_,rfl⟩
  obtain⟨M,hM⟩: ∃M,M=ohM s.ws x0:=⟨_,rfl⟩
  obtain⟨C,hC⟩: ∃C,C=ohC s.ws x0:=⟨_,rfl⟩
  obtain⟨E,hE⟩: ∃E,E=ohE s.ws x0:=⟨_,rfl⟩
  have HHD:=ZZ (show ∀W',Only nob wr W'→Calls Tryz.prog 33 #[.slice Aw s.ws.length cw,.int .i64 x0] W' fun e w'=>e=.returned (.tuple #[.agg #[.int .i64 K,.int .i64 F,.int .i64 R,.bool M,.int .i64 C],.int .i64 E])∧Only nob W' w' from fun W' o=>by
   have o2:=HO.out.1.trans o;rw[hE,hK,hF,hR,hM,hC]
   exact ZcF _ B s.ws x0 W' (HR.out.words.below (o2.below hB fun _ h=>h.elim)) (Yi hB o2.size) HOK.out.ws HOK.out.few.1)
  have hF0:0≤F∧0≤R∧(xn:Int)+(1+F+R)≤s.ws.length:=by
   rw[hF,hR];exact⟨hbn.1,hbn.2.1,by have:=hbn.2.2.2.1;omega⟩
  have HFR2:=ZZ (show Zck s.objs s.ws x0=((List.range F.toNat).all fun j=>leads s.objs (wd s.ws (x0+1+(j:Nat)).toNat)) by rw[hF];rfl);have c5:=HO.out.2.2.c5;have HXN:=ZZ hxn;clear hx h0 hE hK hF hR hM hC hob0 hbn hxn;have HN0:=ZZ (show Only nob wr wr.drew from(Only.refl nob wr).drewN 1);have HN1:=ZZ (show Only nob wr (wr.alloc (.cells #[.int .i64 0,.int .i64 0,.int .i64 0,.bool false,.int .i64 0] 72)).drew from((Only.refl nob wr).alloc _).drewN 1)
  go_upto_region 25 with fail
  go_cut [12] (fun sp wx=> ∃bq:Nat,sp=.pointer (some ⟨bq,0,none⟩)∧Hid (Only nob wr wx∧Blk wx bq 72 #[.int .i64 K,.int .i64 F,.int .i64 R,.bool M,.int .i64 C]))
  case first=>
   go_region_held3 (fun w'=>w'.cell? ⟨p,5,none⟩=some (.slice Aw s.ws.length cw)∧w'.cell? ⟨bt,ot+k,none⟩=some (.int .i64 x0)) (first|(with_reducible exact C1.out)|(with_reducible exact And.intro ((O3.out.alloc _).keeps c5) ((O3.out.alloc _).keeps t0))|(with_reducible exact And.intro (HN0.out.keeps c5) (HN0.out.keeps t0))|(with_reducible exact And.intro (((Only.refl nob wr).alloc _).keeps c5) (((Only.refl nob wr).alloc _).keeps t0))|go_keep|with_reducible exact And.intro ((only_five O3.out (Yj _) _ _ _ _ _).keeps c5) ((only_five O3.out (Yj _) _ _ _ _ _).keeps t0))
    ((go_at_call 33
      first
      |(with_reducible refine(HHD.out wr.drew HN0.out).mono ?_
        rintro e w3 ⟨rfl,o⟩;have O3:=ZZ o.drewL;have TA:=True.intro;have C1:=ZZ (And.intro (O3.out.keeps c5) (O3.out.keeps t0))
        clear o)
      |(with_reducible refine(HHD.out (wr.alloc (.cells #[.int .i64 0,.int .i64 0,.int .i64 0,.bool false,.int .i64 0] 72)).drew HN1.out).mono ?_
        rintro e w3 ⟨rfl,o⟩;have O3:=ZZ (((Only.refl nob wr).alloc (.cells #[.int .i64 0,.int .i64 0,.int .i64 0,.bool false,.int .i64 0] 72)).trans o.drewL);have BZ:=ZZ ((Blk.new wr 72 #[.int .i64 0,.int .i64 0,.int .i64 0,.bool false,.int .i64 0]).keep o.drewL id);have TB:=True.intro;obtain⟨y0,y1,y2,y3,y4⟩:=Zj BZ.out;obtain⟨z0,z1,z2,z3,z4⟩:=ZaG BZ.out;have C1:=ZZ (And.intro (O3.out.keeps c5) (O3.out.keeps t0))
        clear o)))
   all_goals
    first
    |(clear TA
      obtain⟨W5,hW5,HBX⟩:=Zz w3 K F R M C;have HW5:=ZZ hW5;clear hW5;rw[HW5.out];go_wp2
      go_meet
      exact⟨_,rfl,ZZ ⟨O3.out.trans HBX.out.1,HBX.out.2⟩⟩)
    |(clear TB y0 y1 y2 y3 y4 z0 z1 z2 z3 z4
      obtain⟨W5,hW5,OX,BX⟩:=Zbw O3.out (Yj _) BZ.out (.int .i64 K) (.int .i64 F) (.int .i64 R) (.bool M) (.int .i64 C);rw[hW5];go_wp2
      go_meet
      exact⟨_,rfl,ZZ ⟨OX,BX⟩⟩)
  case rest=>
  obtain⟨bq,rfl,HC5⟩:=hcut
  obtain⟨W5,rfl⟩: ∃W5:World,W5=wc:=⟨_,rfl⟩
  have HO5:=ZZ (HO.out.1.trans HC5.out.1);have HP5:=ZZ (HO.out.2.1.trans HC5.out.1);have HX5:=ZZ (HO.out.2.2.keep HC5.out.1);clear c5 t0
  obtain⟨f,rfl⟩: ∃f:Nat,F=f:=⟨F.toNat,by omega⟩
  go_wp2_with fail
  go_loopw [14] (fun i wy=> ∃j:Nat,j≤f∧i=.int .i64 j∧Hid (∀(m:Nat),m<j→leads s.objs (wd s.ws (x0+1+(m:Nat)).toNat)=true)∧Hid (Only nob W5 wy)) (fun i _=>f - (intOf i).toNat)
  case atStart=>exact⟨0,Yu _,rfl,ZZ (fun m hm=>absurd hm (Nat.not_lt_zero m)),ZZ (Only.refl _ _)⟩
  case round=>
  obtain⟨j,hj,rfl,HNJ,HOJ⟩:=hrel
  obtain⟨wy,rfl⟩: ∃wy:World,wy=wr:=⟨_,rfl⟩
  have HBH:=ZZ (HC5.out.2.keep HOJ.out id);have HXJ:=ZZ (HX5.out.keep HOJ.out);obtain⟨g0,g1,g2,g3,g4⟩:=Zj HBH.out;have OW:=ZZ (HO5.out.trans HOJ.out);have PW:=ZZ (HP5.out.trans HOJ.out);by_cases hjl:j<f
  case pos=>
   obtain⟨a0,ha0⟩: ∃a0:Nat,(x0+1+(j:Nat)).toNat=a0:=⟨_,rfl⟩
   have hxz:=HXN.out
   have ha1:x0+1+(j:Int)=a0:=by omega
   have ha2:a0<s.ws.length:=by omega
   obtain⟨y,hy⟩: ∃y,s.ws[a0]? =some y:=⟨_,Ya ha2⟩
   obtain⟨bw,ow,rfl,hbw,u0⟩:=Zg6 HR.out.words (OW.out.below hB fun _ h=>h.elim) hy
   have hyw:wd s.ws a0=y:=by unfold wd;rw[Yn,hy];rfl
   have hyf:y<full:=HOK.out.ws y (Yo hy);have HLD:=ZZ (show ∀W',Only nob wy W'→Calls Tryz.prog 75 #[.slice (some ⟨bt,ot,none⟩) s.objs.length c88,.int .u64 (y:Nat)] W' fun e w'=>e=.returned (.bool (leads s.objs y))∧Only nob W' w' from fun W' o=>Zk9 _ s.objs y _ W' (S8.out.below (PW.out.trans o).whole) (PW.out.trans o).size hyf);have HLJ:=ZZ (show leads s.objs (wd s.ws (x0+1+(j:Nat)).toNat)=leads s.objs y by rw[ha0,hyw]);obtain⟨b2,o2,e2, -,t1⟩:=ZbE S8.out PW.out.whole HX.out
   obtain⟨rfl,rfl⟩:bt=b2∧ot=o2:=by simpa using e2
   obtain⟨D0,D1,D2,D3,D4,D5,D6,D7,D8,D9⟩:=HXJ.out.all;have T1:=Zh t1;have U0:=Zh u0
   have hi0:0≤x0:=by omega
   have hi1:x0≤98304:=by omega
   have m1:IntKind.i64.wrap (x0+1)=x0+1:=by rw[IntKind.wrap_i64];omega
   have m2:IntKind.i64.wrap (x0+1+(j:Int))=(a0:Int):=by rw[IntKind.wrap_i64];omega
   have m3:IntKind.i64.wrap (a0:Int)=(a0:Int):=by rw[IntKind.wrap_i64];omega
   clear e2 hy hyw hyf ha0 hxz
   go_upto_region 29 with fail
   clear g0 g1 g2 g3 g4 t1 u0
   cases hl:leads s.objs y
   case false=>
    rw[hl] at HLD HLJ;have HF:=ZZ (HQ.out.trans (ZrQ H1.out H2.out H3.out H4.out H5.out H6.out H7.out (Zaz HX.out (HFR2.out.trans (Zss (by omega) HLJ.out)))));clear hl;refine Ze ZK (by kernel_rfl) ?_
    repeat (with_reducible refine wpQuiet_step ?_;intro K hK;go_simp;first|(with_reducible refine hK _ ?_;clear hK K)|(apply Exists.intro;with_reducible refine⟨fun _=>?_,hK _ ?_⟩;(first|(go_at_call 75;with_reducible refine Zg (HLD.out _ (ZaJ _ _ _))));clear hK K))
    refine wpQuiet_nil ?_;rintro w' ⟨⟨nq,osq⟩,rfl⟩;obtain⟨W9,hW9,QW9⟩:=Zn wy nq osq;rw[hW9];clear hW9;have O9:=ZZ (OW.out.trans QW9.out);clear T1 U0 D0 D1 D2 D3 D4 D5 D6 D7 D8 D9;go_wp2;go_ret;exact⟨ZS (by rw[HF.out]),O9.out⟩
   case true=>
    rw[hl] at HLD HLJ
    have HNJ2:=ZZ (show ∀(m:Nat),m<j+1→leads s.objs (wd s.ws (x0+1+(m:Nat)).toNat)=true from fun m hm=>by
     rcases Yq m j with h'|h'
     · exact HNJ.out m h'
     · obtain rfl:m=j:=by omega
       exact HLJ.out)
    clear hl;refine Ze ZK (by kernel_rfl) ?_
    repeat (with_reducible refine wpQuiet_step ?_;intro K hK;go_simp;first|(with_reducible refine hK _ ?_;clear hK K)|(apply Exists.intro;with_reducible refine⟨fun _=>?_,hK _ ?_⟩;(first|(go_at_call 75;with_reducible refine Zg (HLD.out _ (ZaJ _ _ _))));clear hK K))
    refine wpQuiet_nil ?_;rintro w' ⟨⟨nq,osq⟩,rfl⟩;obtain⟨W9,hW9,QW9⟩:=Zn wy nq osq;rw[hW9];clear hW9;have O9:=ZZ (OW.out.trans QW9.out);clear T1 U0 D0 D1 D2 D3 D4 D5 D6 D7 D8 D9;go_wp2
    go_roundw
    case rel=>exact⟨j+1,by omega,by go_num,HNJ2,ZZ (HOJ.out.trans QW9.out)⟩
    case measure=>simp[intOf];omega
  case neg=>
  obtain rfl:j=f:=by omega
  have HN2:=ZZ (Zar HNO.out HX.out (HFR2.out.trans (Zrf HNJ.out)));go_wp2
  go_roundw
  case rel=>exact⟨k+1,by omega,by go_num,HN2,ZZ ⟨OW.out,PW.out,HXJ.out⟩⟩
  case measure=>simp[intOf];omega
 case neg=>
 obtain rfl:k=s.objs.length:=by omega
 have H8:=ZZ (show r8 s=true from Zbz HNO.out)
 obtain⟨w9,rfl⟩: ∃w9:World,w9=wr:=⟨_,rfl⟩
 have O9:=ZZ HO.out.1;have P9:=ZZ HO.out.2.1;have X9:=ZZ HO.out.2.2;clear HNO HO hlt hk
 go_wp2_with fail
 go_loopw [15] (fun i wr=> ∃k:Nat,k≤s.sl.length∧i=.int .i64 k∧Hid (∀(j:Nat) y,j<k→s.sl[j]? =some y→ZnU s.objs y=true)∧Hid (Only nob w9 wr)) (fun i _=>s.sl.length - (intOf i).toNat)
 case atStart=>exact⟨0,Yu _,rfl,ZZ (fun j _ hj _=>absurd hj (Nat.not_lt_zero j)),ZZ (Only.refl _ _)⟩
 case round=>
 obtain⟨k,hk,rfl,HNO,HO⟩:=hrel;have OW:=ZZ (O9.out.trans HO.out);have PW:=ZZ (P9.out.trans HO.out);have XW:=ZZ (X9.out.keep HO.out);obtain⟨c0,c1,c2,c3,c4,c5,c6,c7,c8,c9⟩:=XW.out;by_cases hlt:k<s.sl.length
 case pos=>
  obtain⟨x,hx⟩: ∃x,s.sl[k]? =some x:=⟨_,Ya hlt⟩
  obtain⟨bt,ot,rfl,hbt,t0,t1,t2⟩:=Zdk HR.out.slots (OW.out.below hB fun _ h=>h.elim) hx;have hx64:x.2.2<full:=(HOK.out.sl.get hx).2.2;obtain⟨u,gn,y⟩:=x;have HX:=ZZ hx;simp only at hx64 t0 t1 t2;have HLD:=ZZ (show ∀W',Only nob wr W'→Calls Tryz.prog 75 #[.slice A8 s.objs.length c88,.int .u64 (y:Nat)] W' fun e w'=>e=.returned (.bool (leads s.objs y))∧Only nob W' w' from fun W' o=>Zk9 _ s.objs y _ W' (S8.out.below (PW.out.trans o).whole) (PW.out.trans o).size hx64);clear hx hx64
  cases u with
  |false=>
   have HN2:=ZZ (Zar (p:=ZnU s.objs) HNO.out HX.out rfl);go_wp2
   go_roundw
   case rel=>exact⟨k+1,by omega,by go_num,(by first|exact HN2|exact ZZ fun j a b c hj h=>HN2.out j (a,b,c) hj h),HO⟩
   case measure=>simp[intOf];omega
  |true=>
   go_wp2_with fail
   go_at_call 75;refine(HLD.out _ (Only.refl _ _)).mono ?_
   cases hl:leads s.objs y
   case false=>
    have HF:=ZZ (HQ.out.trans (ZrR H1.out H2.out H3.out H4.out H5.out H6.out H7.out H8.out (Zaz (p:=ZnU s.objs) HX.out hl)));rintro e wl ⟨rfl,o⟩;have O10:=ZZ (OW.out.trans o);clear o hl c0 c1 c2 c3 c4 c5 c6 c7 c8 c9 t0 t1 t2;go_wp2;go_ret;exact⟨ZS (by rw[HF.out]),O10.out⟩
   case true=>
    have HN2:=ZZ (Zar (p:=ZnU s.objs) HNO.out HX.out hl);rintro e wl ⟨rfl,o⟩;have O10:=ZZ (HO.out.trans o);clear o hl c0 c1 c2 c3 c4 c5 c6 c7 c8 c9 t0 t1 t2;go_wp2
    go_roundw
    case rel=>exact⟨k+1,by omega,by go_num,(by first|exact HN2|exact ZZ fun j a b c hj h=>HN2.out j (a,b,c) hj h),O10⟩
    case measure=>simp[intOf];omega
 case neg=>
 obtain rfl:k=s.sl.length:=by omega
 have HF:=ZZ (HQ.out.trans (ZaF.2 ⟨H1.out,H2.out,H3.out,H4.out,H5.out,H6.out,H7.out,H8.out,Zbz (p:=ZnU s.objs) HNO.out⟩));go_wp2;go_ret;exact⟨ZS (by rw[HF.out]),OW.out⟩
end
section
open Go.RowKit
theorem Zbv {s:St} (h:Zal s=0):obE s=0∧obL s=s.objs:=by unfold obE obL;rw[if_pos h,if_pos h];exact⟨rfl,rfl⟩
theorem ZcA {s:St} (h: ¬Zal s=0):obE s=4∧obL s=[]:=by unfold obE obL;rw[if_neg h,if_neg h];exact⟨rfl,rfl⟩
theorem ZmK:Zla 32:=by
 intro s vw vt vf vs B w h hB hok hpar;obtain⟨W,hW,HB⟩:=Zu w s vw vt vf vs;have HW:=ZZ hW;have HR1:=h.only HB.out.1 hB;have hB1:=Yi hB HB.out.1.size;have HCK:=ZZ (ZpW s vw vt vf vs B W HR1 hB1 hok (hpar.old HB.out.1))
 have HAL:=ZZ (show ∀W',Only nob W W'→Calls Tryz.prog 64 #[.agg #[.int .i64 s.cf.semi,.int .i64 s.cf.large,.int .i64 s.cf.slots,.int .i64 s.cf.limit,.bool s.sec,vw,.int .i64 s.top,vt,vf,vs]] W' fun e w'=> ∃v',e=.returned v'∧Sl w' w'.heap.size 1 v' s.objs.length (i64s s.objs)∧Only nob W' w' from fun W' o=>by
  refine(ZrX s _ _ _ _ B W' (HR1.only o hB1) (Yi hB1 o.size) hok).mono ?_;rintro e w' ⟨v',rfl,hO,o3⟩
  exact⟨v',rfl,Sl.of_own hO (by rw[ZdJ,Nat.mul_one]),o3⟩)
 obtain⟨c0,c1,c2,c3,c4,c5,c6,c7,c8,c9⟩:=HB.out.2.2
 obtain⟨z,hz⟩: ∃z,z=Zal s:=⟨_,rfl⟩
 have HZ:=ZZ hz;rw[← hz] at HCK
 obtain⟨E,hE⟩: ∃E,E=obE s:=⟨_,rfl⟩
 obtain⟨L,hL⟩: ∃L,L=obL s:=⟨_,rfl⟩
 have HEL:=ZZ (And.intro hE hL);rw[← hE, ← hL];clear hW HR1 hB1 hz hE hL h hok hpar
 go_enter Tryz.func32,Tryz.ntmps32
 go_upto_region 1 with fail
 rw[HW.out]
 go_wp2_with fail
 go_at_call 35;refine HCK.out.mono ?_;rintro e w1 ⟨rfl,o⟩;have O1:=ZZ o;have X1:=ZZ (HB.out.2.2.keep o);clear o c0 c1 c2 c3 c4 c5 c6 c7 c8 c9;obtain⟨c0,c1,c2,c3,c4,c5,c6,c7,c8,c9⟩:=X1.out;by_cases hz0:z=0
 · have HY:=ZZ (Zbv (s:=s) (HZ.out.symm.trans hz0))
   subst hz0
   go_wp2_with fail
   go_at_call 64;refine(HAL.out _ O1.out).mono ?_;rintro e w2 ⟨v2,rfl,hs,o⟩;have O2:=ZZ (HB.out.1.trans (O1.out.trans o));have S2:=ZZ hs;clear o hs c0 c1 c2 c3 c4 c5 c6 c7 c8 c9;go_wp2;go_ret2;exact⟨_,by rw[HEL.out.1,HY.out.1];rfl,by rw[HEL.out.2,HY.out.2];exact S2.out,O2.out⟩
 · have HY:=ZZ (ZcA (s:=s) (fun e=>hz0 (HZ.out.trans e)))
   have hbq:(z !=0)=true:=by simpa using hz0
   clear hz0 c0 c1 c2 c3 c4 c5 c6 c7 c8 c9;go_wp2;go_ret2;exact⟨_,by rw[HEL.out.1,HY.out.1];rfl,by rw[HEL.out.2,HY.out.2];exact Sl.nil_,HB.out.1.trans O1.out⟩
end
end Go.Proofs.YteieocddfnlmdaaGreatDoor
