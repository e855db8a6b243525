/- The document's own answers for heaps: whether a word leads s -/
import Derived.Test.YteieocddfnlmdaaGreatDoorO17
set_option maxRecDepth 100000
set_option maxHeartbeats 32000000
set_option linter.unusedSimpArgs false
set_option linter.unusedVariables false
namespace Go.Proofs.YteieocddfnlmdaaGreatDoor
open Go.RowKit
theorem ZK:Tryz.prog.follows .mixedOrders=true:=by kernel_rfl
theorem SBox.all {W:World} {b:Nat} {s:St} {vw vt vf vs:Value} (h:SBox W b s vw vt vf vs):
 (∀n os,(wat W n os).cell? ⟨b,0,none⟩=some (.int .i64 s.cf.semi))∧(∀n os,(wat W n os).cell? ⟨b,1,none⟩=some (.int .i64 s.cf.large))∧(∀n os,(wat W n os).cell? ⟨b,2,none⟩=some (.int .i64 s.cf.slots))∧(∀n os,(wat W n os).cell? ⟨b,3,none⟩=some (.int .i64 s.cf.limit))∧(∀n os,(wat W n os).cell? ⟨b,4,none⟩=some (.bool s.sec))∧(∀n os,(wat W n os).cell? ⟨b,5,none⟩=some vw)∧(∀n os,(wat W n os).cell? ⟨b,6,none⟩=some (.int .i64 s.top))∧(∀n os,(wat W n os).cell? ⟨b,7,none⟩=some vt)∧(∀n os,(wat W n os).cell? ⟨b,8,none⟩=some vf)∧(∀n os,(wat W n os).cell? ⟨b,9,none⟩=some vs):=
 ⟨Zh h.c0,Zh h.c1,Zh h.c2,Zh h.c3,Zh h.c4,Zh h.c5,Zh h.c6,Zh h.c7,Zh h.c8,Zh h.c9⟩
def Zit (m:Bool) (c:Int):Bool:=!m&&decide (c=0)
theorem Zlo (k f r:Int) (m:Bool) (c:Int) (w:World):Calls Tryz.prog 71 #[.agg #[.int .i64 k,.int .i64 f,.int .i64 r,.bool m,.int .i64 c]] w fun e w'=>e=.returned (.bool (Zit m c))∧Only nob w w':=by
 obtain⟨W,hW,HB⟩:=Zz w k f r m c;have HW:=ZZ hW;obtain⟨-, -, -,c3,c4⟩:=Zj HB.out.2;clear hW
 cases m with
 |true=>
  rw[show Zit true c=false from rfl]
  go_enter Tryz.func71,Tryz.ntmps71
  go_upto_region 1 with fail
  rw[HW.out];go_wp2;go_ret;exact⟨rfl,HB.out.1⟩
 |false=>
  by_cases hc:c=0
  · have hI:Zit false c=true:=by unfold Zit;simp[hc]
    have hbq:(c==0)=true:=by simpa using hc
    rw[hI];clear hc hI
    go_enter Tryz.func71,Tryz.ntmps71
    go_upto_region 1 with fail
    rw[HW.out];go_wp2;go_ret;exact⟨Za (by simp),HB.out.1⟩
  · have hI:Zit false c=false:=by unfold Zit;simp[hc]
    have hbq:(c==0)=false:=by simpa using hc
    rw[hI];clear hc hI
    go_enter Tryz.func71,Tryz.ntmps71
    go_upto_region 1 with fail
    rw[HW.out];go_wp2;go_ret;exact⟨Za (by simp),HB.out.1⟩
theorem Zk9 (v:Value) (all:List Int) (x B:Nat) (w:World) (h:Sl w B 1 v all.length (i64s all)) (hB:B≤w.heap.size) (hx:x<full):
 Calls Tryz.prog 75 #[v,.int .u64 (x:Nat)] w fun e w'=>e=.returned (.bool (leads all x))∧Only nob w w':=by
 have HA:=ZZ h
 have hx63:0≤((x:Nat):Int)∧((x:Nat):Int)<18446744073709551616:=by unfold full at hx;omega
 have HD:=ZZ (Zd2 hx63 w)
 obtain⟨K,hK⟩: ∃K,K=dK (x:Nat):=⟨_,rfl⟩
 obtain⟨X,hX⟩: ∃X,X=dX (x:Nat):=⟨_,rfl⟩
 obtain⟨E,hE⟩: ∃E,E=dE (x:Nat):=⟨_,rfl⟩
 have HL:=ZZ (show leads all x=(decide (E=0)&&(!decide (K=2)||Zan all X)) by rw[hK,hX,hE];rfl);rw[← hK, ← hX, ← hE] at HD
 obtain⟨q,hq⟩: ∃q,q=leads all x:=⟨_,rfl⟩
 rw[← hq] at HL ⊢;obtain⟨A,ca,rfl,hac,ham, -⟩:=h;clear hx hx63 hK hX hE hq
 go_enter Tryz.func75,Tryz.ntmps75
 go_wp2_with fail
 go_at_call 36;refine HD.out.mono ?_;rintro e w1 ⟨rfl,o⟩;obtain⟨W3,hW3,H3⟩:=Zak w1 K X;have HW3:=ZZ hW3;have O3:=ZZ (o.trans H3.out.1);have HS:=ZZ (Zs5 _ all X B W3 (HA.out.below (O3.out.below hB fun _ h=>h.elim)));obtain⟨-,c0,c1⟩:=H3.out;clear hW3 o
 go_upto_region 2 with fail
 rw[HW3.out];by_cases hE0:E=0
 · subst hE0
   by_cases hK2:K=2
   · subst hK2
     rw[show(decide ((0:Int)=0)&&(!decide ((2:Int)=2)||Zan all X))=Zan all X by simp] at HL
     obtain⟨y,hy⟩: ∃y,y=Zan all X:=⟨_,rfl⟩
     rw[← hy] at HL HS;clear hy
     go_wp2_with fail
     go_at_call 115;refine HS.out.mono ?_;rintro e w4 ⟨rfl,rfl⟩;clear c0 c1;go_wp2;go_ret;exact⟨Za (by rw[HL.out]),O3.out⟩
   · have HQ:=ZZ (HL.out.trans (by simp[hK2]:_=true))
     have hbq:(K !=2)=true:=by simpa using hK2
     clear hK2;go_wp2;go_ret;exact⟨Za (by rw[HQ.out]),O3.out⟩
 · have HQ:=ZZ (HL.out.trans (by simp[hE0]:_=false))
   have hbq:(E !=0)=true:=by simpa using hE0
   clear hE0;go_wp2;go_ret;exact⟨Za (by rw[HQ.out]),O3.out⟩
theorem ZtU {w w':World} {B c k:Nat} {A:Option Addr} {l:List Sp} {x:Sp} (h:Sl w B 2 (.slice A l.length c) l.length (spc l)) (hb:Below B w w') (hx:l[k]? =some x):
 ∃b o,A=some ⟨b,o,none⟩∧b<B∧(∀n os,(wat w' n os).cell? ⟨b,o+k * 2,none⟩=some (.int .i64 x.1))∧(∀n os,(wat w' n os).cell? ⟨b,o+k * 2+1,none⟩=some (.int .i64 x.2)):=by
 obtain⟨b,o,e,hl,c0,c1⟩:=sl_span h hb hx;exact⟨b,o,e,hl,Zh c0,Zh c1⟩
theorem ZrX (s:St) (vw vt vf vs:Value) (B:Nat) (w:World) (h:Rd w B s vw vt vf vs) (hB:B≤w.heap.size) (hok:StOk s):
 Calls Tryz.prog 64 #[.agg #[.int .i64 s.cf.semi,.int .i64 s.cf.large,.int .i64 s.cf.slots,.int .i64 s.cf.limit,.bool s.sec,vw,.int .i64 s.top,vt,vf,vs]] w fun e w'=> ∃v',e=.returned v'∧w'.ownsRow w.heap.size 3 1 v' s.objs.length (i64s s.objs)∧Only nob w w':=by
 obtain⟨j0,hj0,hy0,hy1,hy2⟩:=info_parts ZaM;have HR:=ZZ h;have HOK:=ZZ hok;obtain⟨At,ct,rfl,hat,hct⟩:=h.tab.form;obtain⟨Aw,cw,rfl,haw,hcw⟩:=h.words.form;unfold maxLen at hct hcw;obtain⟨W,hW,HB⟩:=Zu w s (.slice Aw s.ws.length cw) (.slice At s.tb.length ct) vf vs;have HW:=ZZ hW
 obtain⟨p,hp⟩: ∃p,p=w.heap.size:=⟨_,rfl⟩
 have HBX:=ZZ HB.out.2.2;rw[← hp] at HBX;have HP:=ZZ hp;obtain⟨c0,c1,c2,c3,c4,c5,c6,c7,c8,c9⟩:=HBX.out;have HFR:=ZZ (fun w=>ZfN s.cf s.sec w)
 have HWK:=ZZ (show ∀W',Only nob W W'→Calls Tryz.prog 70 #[.slice Aw s.ws.length cw,.agg #[.int .i64 (ZR s.cf s.sec).1,.int .i64 (ZR s.cf s.sec).2],.int .i64 s.top] W' fun e w'=> ∃v',e=.returned (.tuple #[v',.int .i64 (wkP s.steps s.top),.int .i64 (wkE s.steps)])∧w'.ownsRow W.heap.size 3 1 v' s.smalls.length (i64s s.smalls)∧Only nob W' w' from fun W' o=>by
  have o2:=HB.out.1.trans o;refine(ZtJ _ B s.ws (ZR s.cf s.sec) s.top W' (HR.out.words.below (o2.below hB fun _ h=>h.elim)) (Yi hB o2.size) HOK.out.ws HOK.out.few.1).mono ?_;rintro e w' ⟨v',rfl,hO,o3⟩
  exact⟨v',rfl,ZE hO fun k hk=>Yi o.size (Zl hO hk).1,o3⟩)
 have hpW:p<W.heap.size:=by rw[hp];exact HB.out.2.1.lt
 have hwW:w.heap.size≤W.heap.size:=HB.out.1.size;have mixed:=ZK;clear h hok hW hp
 go_enter Tryz.func64,Tryz.ntmps64
 go_upto_region 1 with fail
 rw[HW.out, ← HP.out]
 go_region_held3 (fun w'=>w'.cell? ⟨p,0,none⟩=some (.int .i64 s.cf.semi)∧w'.cell? ⟨p,1,none⟩=some (.int .i64 s.cf.large)∧w'.cell? ⟨p,2,none⟩=some (.int .i64 s.cf.slots)∧w'.cell? ⟨p,3,none⟩=some (.int .i64 s.cf.limit)∧w'.cell? ⟨p,4,none⟩=some (.bool s.sec)∧w'.cell? ⟨p,5,none⟩=some (.slice Aw s.ws.length cw)∧w'.cell? ⟨p,6,none⟩=some (.int .i64 s.top)) (first|go_keep|exact C1.out)
  (first
    |(go_at_call 69
      with_reducible refine(HFR.out _).mono ?_
      rintro e wA ⟨rfl,o⟩;have OA:=ZZ o.drewL;have C1:=ZZ (show wA.cell? ⟨p,0,none⟩=some (.int .i64 s.cf.semi)∧wA.cell? ⟨p,1,none⟩=some (.int .i64 s.cf.large)∧wA.cell? ⟨p,2,none⟩=some (.int .i64 s.cf.slots)∧wA.cell? ⟨p,3,none⟩=some (.int .i64 s.cf.limit)∧wA.cell? ⟨p,4,none⟩=some (.bool s.sec)∧wA.cell? ⟨p,5,none⟩=some (.slice Aw s.ws.length cw)∧wA.cell? ⟨p,6,none⟩=some (.int .i64 s.top) from⟨OA.out.keeps c0,OA.out.keeps c1,OA.out.keeps c2,OA.out.keeps c3,OA.out.keeps c4,OA.out.keeps c5,OA.out.keeps c6⟩)
      clear o)
    |(go_at_call 70
      with_reducible refine(HWK.out _ OA.out).mono ?_
      rintro e wB ⟨v0,rfl,hO,o⟩;have OB:=ZZ (HB.out.1.trans (OA.out.trans o));have HOW:=ZZ hO;have HBW:=ZZ (show W.heap.size≤wB.heap.size from(OA.out.trans o).size);have HBB:=ZZ (HBX.out.keep (OA.out.trans o));have C1:=ZZ (show wB.cell? ⟨p,0,none⟩=some (.int .i64 s.cf.semi)∧wB.cell? ⟨p,1,none⟩=some (.int .i64 s.cf.large)∧wB.cell? ⟨p,2,none⟩=some (.int .i64 s.cf.slots)∧wB.cell? ⟨p,3,none⟩=some (.int .i64 s.cf.limit)∧wB.cell? ⟨p,4,none⟩=some (.bool s.sec)∧wB.cell? ⟨p,5,none⟩=some (.slice Aw s.ws.length cw)∧wB.cell? ⟨p,6,none⟩=some (.int .i64 s.top) from⟨HBB.out.c0,HBB.out.c1,HBB.out.c2,HBB.out.c3,HBB.out.c4,HBB.out.c5,HBB.out.c6⟩)
      clear hO o))
 all_goals
  clear c0 c1 c2 c3 c4 c5 c6 c7 c8 c9;have hsm:s.smalls.length≤32768:=ZaB s;have htb:s.tb.length≤1000:=HOK.out.few.2.1
  go_wp2_with fail
  go_loopw [3,6] (fun v i wr=> ∃k:Nat,k≤s.tb.length∧i=.int .i64 k∧Hid (wr.ownsRow W.heap.size 3 1 v (s.smalls++(s.tb.take k).map (·.1)).length (i64s (s.smalls++(s.tb.take k).map (·.1))))∧Hid (Only nob w wr∧W.heap.size≤wr.heap.size∧SBox wr p s (.slice Aw s.ws.length cw) (.slice At s.tb.length ct) vf vs)) (fun _ i _=>s.tb.length - (intOf i).toNat)
  case atStart=>exact⟨0,Yu _,rfl,ZZ (by simpa using HOW.out),ZZ ⟨OB.out,HBW.out,HBB.out⟩⟩
  case round=>
   obtain⟨k,hk,rfl,HRW,HO⟩:=hrel;obtain⟨Ar,cr,rfl,hcr,hmr⟩:=Zi HRW.out;unfold maxLen at hmr;obtain⟨c0,c1,c2,c3,c4,c5,c6,c7,c8,c9⟩:=HO.out.2.2;by_cases hlt:k<s.tb.length
   · obtain⟨x,hx⟩: ∃x,s.tb[k]? =some x:=⟨_,Ya hlt⟩
     obtain⟨b,o,rfl,hb,d0,d1⟩:=sl_span HR.out.tab (HO.out.1.below hB fun _ h=>h.elim) hx;have HSN:=ZZ (show s.smalls++(s.tb.take (k+1)).map (·.1)=(s.smalls++(s.tb.take k).map (·.1))++[x.1] by rw[List.take_add_one,hx];simp)
     obtain⟨P,hP⟩: ∃P,P=s.smalls++(s.tb.take k).map (·.1):=⟨_,rfl⟩
     have hPl:P.length≤100000:=by rw[hP];simp;omega
     rw[← hP] at HRW HSN hcr ⊢
     obtain⟨n,hn⟩: ∃n,n=P.length:=⟨_,rfl⟩
     have HN:=ZZ hn;rw[← hn] at HRW hcr hPl ⊢;have hww:W.heap.size≤wr.heap.size:=HO.out.2.1;clear hP hn hx d1
     go_wp2_with (with_reducible refine Zf (o:=⟨some 36,_,_,_,_,_⟩) _ rfl (.tmp 28) (.tmp 35) _ rfl W.heap.size 3 j0 _ 1 8 Tryz.underlying35 hj0 hy0 hy1 hy2 rfl (by decide) (.slice Ar n cr) n (i64s P) rfl ?c1 (wr.heap.size+1) (.slice (some ⟨wr.heap.size,0,none⟩) 1 1) 1 (i64s [x.1]) rfl ?c6 (ZcY _) ?c2 ?c3 ?c4 ?c5)
     case c1=>exact Zb HRW.out ((Only.refl nob wr).alloc _) (fun _ _ h=>h)
     case c6=>exact Zi1 wr _
     case c2=>unfold maxLen;omega
     case c3=>omega
     case c4=>simp;omega
     case c5=>
      intro v6 w6 H6 o6 _
      have HR6:=ZZ (show w6.ownsRow W.heap.size 3 1 v6 (s.smalls++(s.tb.take (k+1)).map (·.1)).length (i64s (s.smalls++(s.tb.take (k+1)).map (·.1))) by
       rw[HSN.out,Ys,ZQ, ← HN.out]
       exact H6.out)
      have h1:=Zb HRW.out ((Only.refl nob wr).alloc (.cells #[.int .i64 x.1] 3)) (fun _ _ h=>h);have O6:=ZZ (Zay (HO.out.1.alloc (.cells #[.int .i64 x.1] 3)) h1 o6 hwW);have B6:=ZZ ((HO.out.2.2.keep ((Only.refl nob wr).alloc (.cells #[.int .i64 x.1] 3))).keepF o6 fun e=>by have:=(Zl h1 e).1;omega);have Z6:=ZZ (show W.heap.size≤w6.heap.size from Yi hww (Yi ((Only.refl nob wr).alloc (.cells #[.int .i64 x.1] 3)).size o6.size));clear H6 o6 h1 c0 c1 c2 c3 c4 c5 c6 c7 c8 c9 d0;go_wp2
      go_roundw
      case rel=>exact⟨k+1,by omega,by go_num,HR6,ZZ ⟨O6.out,Z6.out,B6.out⟩⟩
      case measure=>simp[intOf];omega
   · obtain rfl:k=s.tb.length:=by omega
     have HE:=ZZ (show s.smalls++(s.tb.take s.tb.length).map (·.1)=s.objs by rw[List.take_length];rfl);rw[HE.out] at HRW hcr ⊢
     obtain⟨n,hn⟩: ∃n,n=s.objs.length:=⟨_,rfl⟩
     have HN:=ZZ hn;rw[← hn] at HRW hcr ⊢;clear hn;go_wp2;go_ret;exact⟨_,rfl,by rw[← HN.out];exact ZE HRW.out fun k hk=>Yi hwW (Zl HRW.out hk).1,HO.out.1⟩
theorem ZdA {W:World} {b:Nat} {k f r:Int} {m:Bool} {c:Int} (h:Blk W b 72 #[.int .i64 k,.int .i64 f,.int .i64 r,.bool m,.int .i64 c]):
 (∀n os,(wat W n os).cell? ⟨b,0,none⟩=some (.int .i64 k))∧(∀n os,(wat W n os).cell? ⟨b,1,none⟩=some (.int .i64 f))∧(∀n os,(wat W n os).cell? ⟨b,2,none⟩=some (.int .i64 r))∧(∀n os,(wat W n os).cell? ⟨b,3,none⟩=some (.bool m))∧(∀n os,(wat W n os).cell? ⟨b,4,none⟩=some (.int .i64 c)):=by
 obtain⟨c0,c1,c2,c3,c4⟩:=Zj h;exact⟨Zh c0,Zh c1,Zh c2,Zh c3,Zh c4⟩
theorem Zaz {α:Type} {p:α→Bool} {l:List α} {k:Nat} {x:α} (hx:l[k]? =some x) (hp:p x=false):l.all p=false:=by
 rw[List.all_eq_false];exact⟨x,Yo hx,by rw[hp];simp⟩
theorem Zbz {α:Type} {p:α→Bool} {l:List α} (h: ∀(j:Nat) y,j<l.length→l[j]? =some y→p y=true):l.all p=true:=by
 rw[List.all_eq_true];intro x hx;obtain⟨j,hj⟩:=List.getElem?_of_mem hx;exact h j x (Yk.1 hj).1 hj
theorem Zar {α:Type} {p:α→Bool} {l:List α} {k:Nat} {x:α} (h: ∀(j:Nat) y,j<k→l[j]? =some y→p y=true) (hx:l[k]? =some x) (hp:p x=true): ∀(j:Nat) y,j<k+1→l[j]? =some y→p y=true:=fun j y hj hy=>by
 rcases Yq j k with h'|h'
 · exact h j y h' hy
 · obtain rfl:j=k:=by omega
   rw[hx] at hy;obtain rfl:=Yp hy;exact hp
theorem Zlb (l:List Nat) (a:Int) (h:ohE l a=0):hSz (ohK l a) (ohF l a) (ohR l a) (ohC l a)=osz (hAr l) a:=by
 have hm:=ZbB l a h;unfold hSz osz;exact if_pos hm
theorem ZpY (s:St) (vw vt vf vs:Value) (B:Nat) (w:World) (h:Rd w B s vw vt vf vs) (hB:B≤w.heap.size) (hok:StOk s):
 Calls Tryz.prog 73 #[.agg #[.int .i64 s.cf.semi,.int .i64 s.cf.large,.int .i64 s.cf.slots,.int .i64 s.cf.limit,.bool s.sec,vw,.int .i64 s.top,vt,vf,vs]] w fun e w'=>e=.returned (.bool (r6 s))∧Only nob w w':=by
 have HR:=ZZ h;have HOK:=ZZ hok;obtain⟨At,ct,rfl,hat,hct⟩:=h.tab.form;obtain⟨Aw,cw,rfl,haw,hcw⟩:=h.words.form;unfold maxLen at hct hcw;obtain⟨W,hW,HB⟩:=Zu w s (.slice Aw s.ws.length cw) (.slice At s.tb.length ct) vf vs;have HW:=ZZ hW
 obtain⟨p,hp⟩: ∃p,p=w.heap.size:=⟨_,rfl⟩
 have HBX:=ZZ HB.out.2.2;rw[← hp] at HBX;have HP:=ZZ hp;obtain⟨c0,c1,c2,c3,c4,c5,c6,c7,c8,c9⟩:=HBX.out.all;have HLG:=ZZ (fun w=>ZiL s.cf w)
 obtain⟨tp,htp⟩: ∃tp,tp=decide (Zah (Zo s.cf) s.tb s.fr):=⟨_,rfl⟩
 have HTB:=ZZ (show ∀W',Only nob W W'→Calls Tryz.prog 112 #[.agg #[.int .i64 (Zo s.cf).1,.int .i64 (Zo s.cf).2],.slice At s.tb.length ct,vf] W' fun e w'=>e=.returned (.bool tp)∧Only nob W' w' from fun W' o=>by
  have o2:=HB.out.1.trans o;rw[htp]
  exact ZtX (Zo s.cf) _ _ s.tb s.fr B W' (HR.out.tab.below (o2.below hB fun _ h=>h.elim)) (HR.out.free.below (o2.below hB fun _ h=>h.elim)) (Yi hB o2.size) (by have:=HOK.out.few.2.1;omega))
 have hpW:p<W.heap.size:=by rw[hp];exact HB.out.2.1.lt
 have hr6:r6 s=(tp&&s.tb.all (big s.cf s.ws)):=by rw[htp];rfl
 obtain⟨q,hq⟩: ∃q,q=r6 s:=⟨_,rfl⟩
 rw[← hq] at hr6 ⊢;have HQ:=ZZ hr6;clear h hok hW hp htp hr6 hq
 go_enter Tryz.func73,Tryz.ntmps73
 go_upto_region 1 with fail
 rw[HW.out, ← HP.out];refine Ze ZK (by kernel_rfl) ?_
 repeat (quiet_step (first
  |(go_at_call 113;with_reducible refine Zg (HLG.out _))
  |(go_at_call 112;with_reducible refine Zg (HTB.out _ (ZaJ _ _ _)))))
 refine wpQuiet_nil ?_;rintro w' ⟨⟨nq,osq⟩,rfl⟩;obtain⟨W3,hW3,O3⟩:=Zn W nq osq;rw[hW3];have HO3:=ZZ (HB.out.1.trans O3.out);have HB3:=ZZ (HBX.out.keep O3.out);clear hW3 O3 c0 c1 c2 c3 c4 c5 c6 c7 c8 c9
 cases tp with
 |false=>
  have HF:=ZZ (HQ.out.trans (Bool.false_and _));go_wp2;go_ret;exact⟨Za (by rw[HF.out]),HO3.out⟩
 |true=>
  have HA:=ZZ (HQ.out.trans (Bool.true_and _));clear HQ
  go_wp2_with fail
  go_loopw [3] (fun i wr=> ∃k:Nat,k≤s.tb.length∧i=.int .i64 k∧Hid (∀(j:Nat) y,j<k→s.tb[j]? =some y→big s.cf s.ws y=true)∧Hid (Only nob w wr∧SBox wr p s (.slice Aw s.ws.length cw) (.slice At s.tb.length ct) vf vs)) (fun i _=>s.tb.length - (intOf i).toNat)
  case atStart=>exact⟨0,Yu _,rfl,ZZ (fun j _ hj _=>absurd hj (Nat.not_lt_zero j)),ZZ ⟨HO3.out,HB3.out⟩⟩
  case round=>
   obtain⟨k,hk,rfl,HNO,HO⟩:=hrel;obtain⟨d0,d1,d2,d3,d4,d5,d6,d7,d8,d9⟩:=HO.out.2;by_cases hlt:k<s.tb.length
   · obtain⟨x,hx⟩: ∃x,s.tb[k]? =some x:=⟨_,Ya hlt⟩
     obtain⟨bt,ot,rfl,hbt,g0,g1⟩:=ZtU HR.out.tab (HO.out.1.below hB fun _ h=>h.elim) hx;obtain⟨x0,x1⟩:=x;have HX:=ZZ hx
     obtain⟨E,hE⟩: ∃E,E=ohE s.ws x0:=⟨_,rfl⟩
     obtain⟨K,hK⟩: ∃K,K=ohK s.ws x0:=⟨_,rfl⟩
     obtain⟨F,hF⟩: ∃F,F=ohF s.ws x0:=⟨_,rfl⟩
     obtain⟨R,hR⟩: ∃R,R=ohR s.ws x0:=⟨_,rfl⟩
     obtain⟨M,hM⟩: ∃M,M=ohM s.ws x0:=⟨_,rfl⟩
     obtain⟨C,hC⟩: ∃C,C=ohC s.ws x0:=⟨_,rfl⟩
     have HHD:=ZZ (show ∀W',Only nob wr W'→Calls Tryz.prog 33 #[.slice Aw s.ws.length cw,.int .i64 x0] W' fun e w'=>e=.returned (.tuple #[.agg #[.int .i64 K,.int .i64 F,.int .i64 R,.bool M,.int .i64 C],.int .i64 E])∧Only nob W' w' from fun W' o=>by
      have o2:=HO.out.1.trans o;rw[hE,hK,hF,hR,hM,hC]
      exact ZcF _ B s.ws x0 W' (HR.out.words.below (o2.below hB fun _ h=>h.elim)) (Yi hB o2.size) HOK.out.ws HOK.out.few.1)
     obtain⟨Z,hZ⟩: ∃Z,Z=osz (hAr s.ws) x0:=⟨_,rfl⟩
     have HSZ:=ZZ (show E=0→ ∀W',Calls Tryz.prog 66 #[.agg #[.int .i64 K,.int .i64 F,.int .i64 R,.bool M,.int .i64 C]] W' fun e w'=>e=.returned (.int .i64 Z)∧Only nob W' w' from fun e0 W'=>by
      have:=ZaL K F R M C W'
      rw[hK,hF,hR,hC] at this ⊢;rw[Zlb s.ws x0 (by rw[← hE];exact e0), ← hZ] at this
      exact this)
     have HQT:=ZZ (fun W=>Zlo K F R M C W)
     obtain⟨I,hI⟩: ∃I,I=Zit M C:=⟨_,rfl⟩
     rw[← hI] at HQT;have HSM:=ZZ (fun W=>Zes s.cf x1 W)
     obtain⟨S,hS⟩: ∃S,S=ZaC s.cf x1:=⟨_,rfl⟩
     rw[← hS] at HSM;have HBG:=ZZ (show big s.cf s.ws (x0,x1)=(decide (E=0)&&(decide (Z=x1)&&(I&&!S))) by rw[hE,hZ,hI,hS,hM,hC];rfl);clear hx hE hK hF hR hM hC hZ hI hS;have c5:=HO.out.2.c5;have c7:=HO.out.2.c7;obtain⟨bt2,ot2,e2, -,t0,t1⟩:=sl_span HR.out.tab (HO.out.1.below hB fun _ h=>h.elim) HX.out
     obtain⟨rfl,rfl⟩:bt=bt2∧ot=ot2:=by simpa using e2
     have HN0:=ZZ (show Only nob wr wr.drew from(Only.refl nob wr).drewN 1);have HN1:=ZZ (show Only nob wr (wr.alloc (.cells #[.int .i64 0,.int .i64 0,.int .i64 0,.bool false,.int .i64 0] 72)).drew from((Only.refl nob wr).alloc _).drewN 1);have HB0:=ZZ HO.out.2;clear e2 g0 g1 d0 d1 d2 d3 d4 d6 d8 d9
     go_upto_region 6 with fail
     go_cut [4,5] (fun s4 s5 wx=> ∃bq:Nat,s4=.pointer (some ⟨bq,0,none⟩)∧s5=.int .i64 E∧Hid (Only nob wr wx∧Blk wx bq 72 #[.int .i64 K,.int .i64 F,.int .i64 R,.bool M,.int .i64 C]))
     case first=>
      go_region_held3 (fun w'=>w'.cell? ⟨p,5,none⟩=some (.slice Aw s.ws.length cw)∧w'.cell? ⟨p,7,none⟩=some (.slice (some ⟨bt,ot,none⟩) s.tb.length ct)∧w'.cell? ⟨bt,ot+k * 2,none⟩=some (.int .i64 x0)) (first|(with_reducible exact C1.out)|(with_reducible exact And.intro ((O3.out.alloc _).keeps c5) (And.intro ((O3.out.alloc _).keeps c7) ((O3.out.alloc _).keeps t0)))|(with_reducible exact And.intro (HN0.out.keeps c5) (And.intro (HN0.out.keeps c7) (HN0.out.keeps t0)))|(with_reducible exact And.intro (((Only.refl nob wr).alloc _).keeps c5) (And.intro (((Only.refl nob wr).alloc _).keeps c7) (((Only.refl nob wr).alloc _).keeps t0)))|go_keep|with_reducible exact And.intro ((only_five O3.out (Yj _) _ _ _ _ _).keeps c5) (And.intro ((only_five O3.out (Yj _) _ _ _ _ _).keeps c7) ((only_five O3.out (Yj _) _ _ _ _ _).keeps t0)))
       ((go_at_call 33
         first
         |(with_reducible refine(HHD.out wr.drew HN0.out).mono ?_
           rintro e w3 ⟨rfl,o⟩;have O3:=ZZ o.drewL;have TA:=True.intro;have C1:=ZZ (And.intro (O3.out.keeps c5) (And.intro (O3.out.keeps c7) (O3.out.keeps t0)))
           clear o)
         |(with_reducible refine(HHD.out (wr.alloc (.cells #[.int .i64 0,.int .i64 0,.int .i64 0,.bool false,.int .i64 0] 72)).drew HN1.out).mono ?_
           rintro e w3 ⟨rfl,o⟩;have O3:=ZZ (((Only.refl nob wr).alloc (.cells #[.int .i64 0,.int .i64 0,.int .i64 0,.bool false,.int .i64 0] 72)).trans o.drewL);have BZ:=ZZ ((Blk.new wr 72 #[.int .i64 0,.int .i64 0,.int .i64 0,.bool false,.int .i64 0]).keep o.drewL id);have TB:=True.intro;obtain⟨y0,y1,y2,y3,y4⟩:=Zj BZ.out;obtain⟨z0,z1,z2,z3,z4⟩:=ZaG BZ.out;have C1:=ZZ (And.intro (O3.out.keeps c5) (And.intro (O3.out.keeps c7) (O3.out.keeps t0)))
           clear o)))
      all_goals
       first
       |(clear TA
         obtain⟨W5,hW5,HBX⟩:=Zz w3 K F R M C;have HW5:=ZZ hW5;clear hW5;rw[HW5.out];go_wp2
         go_meet
         exact⟨_,rfl,rfl,ZZ ⟨O3.out.trans HBX.out.1,HBX.out.2⟩⟩)
       |(clear TB y0 y1 y2 y3 y4 z0 z1 z2 z3 z4
         obtain⟨W5,hW5,OX,BX⟩:=Zbw O3.out (Yj _) BZ.out (.int .i64 K) (.int .i64 F) (.int .i64 R) (.bool M) (.int .i64 C);rw[hW5];go_wp2
         go_meet
         exact⟨_,rfl,rfl,ZZ ⟨OX,BX⟩⟩)
     case rest=>
     obtain⟨bq,rfl,rfl,HC5⟩:=hcut
     obtain⟨W5,rfl⟩: ∃W5:World,W5=wc:=⟨_,rfl⟩
     have HO5:=ZZ (HO.out.1.trans HC5.out.1);have HX5:=ZZ (HB0.out.keep HC5.out.1);obtain⟨D0,D1,D2,D3,D4,D5,D6,D7,D8,D9⟩:=HX5.out.all;obtain⟨h0,h1,h2,h3,h4⟩:=ZdA HC5.out.2;obtain⟨bt',ot',e', -,g0,g1⟩:=ZtU HR.out.tab (HO5.out.below hB fun _ h=>h.elim) HX.out
     obtain⟨rfl,rfl⟩:bt=bt'∧ot=ot':=by simpa using e'
     clear e'
     go_wp2_with fail
     by_cases hE0:E=0
     case neg=>
      have HF:=ZZ (HA.out.trans (Zaz HX.out (HBG.out.trans (by rw[Yl hE0];rfl))))
      have hbq:(E !=0)=true:=by simpa using hE0
      clear hE0;refine Ze ZK (by kernel_rfl) ?_
      repeat (with_reducible refine wpQuiet_step ?_;intro K hK;go_simp;first|(with_reducible refine hK _ ?_;clear hK K)|(apply Exists.intro;with_reducible refine⟨fun _=>?_,hK _ ?_⟩;(fail);clear hK K))
      refine wpQuiet_nil ?_;rintro w' ⟨⟨nq,osq⟩,rfl⟩;obtain⟨W6,hW6,O6⟩:=Zn W5 nq osq;rw[hW6];have HO6:=ZZ (HO5.out.trans O6.out);have HX6:=ZZ (HX5.out.keep O6.out);clear hW6 O6 g0 g1 h0 h1 h2 h3 h4 D0 D1 D2 D3 D4 D5 D6 D7 D8 D9;go_wp2;go_ret;exact⟨Za (by rw[HF.out]),HO6.out⟩
     case pos=>
      subst hE0;have HZ0:=ZZ (HSZ.out rfl);by_cases hZ:Z=x1
      case neg=>
       have HF:=ZZ (HA.out.trans (Zaz HX.out (HBG.out.trans (by rw[Yl hZ];rfl))))
       have hbq:(Z !=x1)=true:=by simpa using hZ
       clear hZ;refine Ze ZK (by kernel_rfl) ?_
       repeat (with_reducible refine wpQuiet_step ?_;intro K hK;go_simp;first|(with_reducible refine hK _ ?_;clear hK K)|(apply Exists.intro;with_reducible refine⟨fun _=>?_,hK _ ?_⟩;(first|(go_at_call 66;with_reducible refine Zg (HZ0.out _))|(go_at_call 71;with_reducible refine Zg (HQT.out _))|(go_at_call 72;with_reducible refine Zg (HSM.out _)));clear hK K))
       refine wpQuiet_nil ?_;rintro w' ⟨⟨nq,osq⟩,rfl⟩;obtain⟨W6,hW6,O6⟩:=Zn W5 nq osq;rw[hW6];have HO6:=ZZ (HO5.out.trans O6.out);have HX6:=ZZ (HX5.out.keep O6.out);clear hW6 O6 g0 g1 h0 h1 h2 h3 h4 D0 D1 D2 D3 D4 D5 D6 D7 D8 D9;go_wp2;go_ret;exact⟨Za (by rw[HF.out]),HO6.out⟩
      case pos=>
       subst hZ
       cases I with
       |false=>
        have HF:=ZZ (HA.out.trans (Zaz HX.out (HBG.out.trans (by simp))));refine Ze ZK (by kernel_rfl) ?_
        repeat (with_reducible refine wpQuiet_step ?_;intro K hK;go_simp;first|(with_reducible refine hK _ ?_;clear hK K)|(apply Exists.intro;with_reducible refine⟨fun _=>?_,hK _ ?_⟩;(first|(go_at_call 66;with_reducible refine Zg (HZ0.out _))|(go_at_call 71;with_reducible refine Zg (HQT.out _))|(go_at_call 72;with_reducible refine Zg (HSM.out _)));clear hK K))
        refine wpQuiet_nil ?_;rintro w' ⟨⟨nq,osq⟩,rfl⟩;obtain⟨W6,hW6,O6⟩:=Zn W5 nq osq;rw[hW6];have HO6:=ZZ (HO5.out.trans O6.out);have HX6:=ZZ (HX5.out.keep O6.out);clear hW6 O6 g0 g1 h0 h1 h2 h3 h4 D0 D1 D2 D3 D4 D5 D6 D7 D8 D9;go_wp2;go_ret;exact⟨Za (by rw[HF.out]),HO6.out⟩
       |true=>
        cases S with
        |true=>
         have HF:=ZZ (HA.out.trans (Zaz HX.out (HBG.out.trans (by simp))));refine Ze ZK (by kernel_rfl) ?_
         repeat (with_reducible refine wpQuiet_step ?_;intro K hK;go_simp;first|(with_reducible refine hK _ ?_;clear hK K)|(apply Exists.intro;with_reducible refine⟨fun _=>?_,hK _ ?_⟩;(first|(go_at_call 66;with_reducible refine Zg (HZ0.out _))|(go_at_call 71;with_reducible refine Zg (HQT.out _))|(go_at_call 72;with_reducible refine Zg (HSM.out _)));clear hK K))
         refine wpQuiet_nil ?_;rintro w' ⟨⟨nq,osq⟩,rfl⟩;obtain⟨W6,hW6,O6⟩:=Zn W5 nq osq;rw[hW6];have HO6:=ZZ (HO5.out.trans O6.out);have HX6:=ZZ (HX5.out.keep O6.out);clear hW6 O6 g0 g1 h0 h1 h2 h3 h4 D0 D1 D2 D3 D4 D5 D6 D7 D8 D9;go_wp2;go_ret;exact⟨Za (by rw[HF.out]),HO6.out⟩
        |false=>
         have HN2:=ZZ (Zar HNO.out HX.out (HBG.out.trans (by simp)));refine Ze ZK (by kernel_rfl) ?_
         repeat (with_reducible refine wpQuiet_step ?_;intro K hK;go_simp;first|(with_reducible refine hK _ ?_;clear hK K)|(apply Exists.intro;with_reducible refine⟨fun _=>?_,hK _ ?_⟩;(first|(go_at_call 66;with_reducible refine Zg (HZ0.out _))|(go_at_call 71;with_reducible refine Zg (HQT.out _))|(go_at_call 72;with_reducible refine Zg (HSM.out _)));clear hK K))
         refine wpQuiet_nil ?_;rintro w' ⟨⟨nq,osq⟩,rfl⟩;obtain⟨W6,hW6,O6⟩:=Zn W5 nq osq;rw[hW6];have HO6:=ZZ (HO5.out.trans O6.out);have HX6:=ZZ (HX5.out.keep O6.out);clear hW6 O6 g0 g1 h0 h1 h2 h3 h4 D0 D1 D2 D3 D4 D5 D6 D7 D8 D9;go_wp2
         go_roundw
         case rel=>exact⟨k+1,by omega,by go_num,(by first|exact HN2|exact ZZ fun j a b hj h=>HN2.out j (a,b) hj h),ZZ ⟨HO6.out,HX6.out⟩⟩
         case measure=>simp[intOf];omega
   · obtain rfl:k=s.tb.length:=by omega
     have HE:=ZZ (HA.out.trans (Zbz HNO.out));go_wp2;go_ret;exact⟨Za (by rw[HE.out]),HO.out.1⟩
theorem Zd7 (s:St):0≤s.frm.1∧s.frm.1≤32768∧0≤s.frm.2∧s.frm.2≤32768:=by
 unfold St.frm;by_cases h:s.cf.ok
 · have:=Za2 h s.sec
   omega
 · unfold ZR Zbx
   simp[h]
theorem ZbO (w:World) (x y:Int): ∃W,w.alloc (.cells #[.int .i64 x,.int .i64 y] 51)=W∧Hid (Only nob w W∧Blk W w.heap.size 51 #[.int .i64 x,.int .i64 y]∧W.cell? ⟨w.heap.size,0,none⟩=some (.int .i64 x)∧W.cell? ⟨w.heap.size,1,none⟩=some (.int .i64 y)):=
 ⟨_,rfl,ZZ ⟨(Only.refl nob w).alloc _,Blk.new _ _ _,(Blk.new w 51 #[.int .i64 x,.int .i64 y]).cell 0,(Blk.new w 51 #[.int .i64 x,.int .i64 y]).cell 1⟩⟩
theorem Zg6 {w w':World} {B:Nat} {A:Option Addr} {c k:Nat} {l:List Nat} {x:Nat} (h:Sl w B 1 (.slice A l.length c) l.length (u64s l)) (hb:Below B w w') (hx:l[k]? =some x):
 ∃b o,A=some ⟨b,o,none⟩∧b<B∧w'.cell? ⟨b,o+k,none⟩=some (.int .u64 (x:Nat)):=by
 have hk:k<l.length:=(Yk.1 hx).1;obtain⟨b,o,c',e,_,_,hlt,hc⟩:=(h.below hb).at_ (by omega)
 obtain⟨rfl,rfl⟩:A=some ⟨b,o,none⟩∧c=c':=by simpa using e
 refine⟨b,o,rfl,hlt,hc _ _ ?_⟩;simp[u64s,hx]
end Go.Proofs.YteieocddfnlmdaaGreatDoor
