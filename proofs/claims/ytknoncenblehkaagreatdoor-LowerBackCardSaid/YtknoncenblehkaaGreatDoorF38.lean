/- Package lift: a heap as a graph. (Printed by wip/tools/gen_l -/
import Derived.Test.YtknoncenblehkaaGreatDoorF37
set_option maxRecDepth 100000
set_option maxHeartbeats 32000000
set_option linter.unusedSimpArgs false
set_option linter.unusedVariables false
namespace Go.Proofs.YtknoncenblehkaaGreatDoor
open Go.RowKit Go.Lib
theorem Zfx.ne_own {w:World} {mp n base:Nat} {K:List Int} {E:TypeId} {z m:Nat} {v:Value} {xs:List Value} (h:Zfx w mp n K) (b:w.ownsRow base E z v m xs): ¬v.ownBlock=some mp:=by
 intro hk;obtain⟨D,⟨es,clock,hb, -⟩, -⟩:=h
 rcases b.2 with⟨rfl, -⟩|⟨g,cap,cur,rfl,_,hg, -⟩
 · cases hk
 · have:mp=g:=by
    have e:some g=some mp:=hk;exact(Yp e).symm
   subst this;rw[hg] at hb
   cases hb
theorem Zm2 {w:World} {g h:Nat} {t u:TypeId} {cs ds:Array Value} (a:Blk w g t cs) (b:Blk w h u ds) (hE:t≠u):g≠h:=by
 rintro rfl;unfold Blk at a b;rw[b] at a
 have:=Yp a
 injection this with _ e
 exact hE e.symm
structure LP19 (Z W:World) (gb n:Nat) (L:List Nd) (R:List Sp) (js:List (Value×Value)) (un vr:Value):Prop where
 ln:L.length=n
 len:js.length=L.length
 nodes:W.ownsRow Z.heap.size 56 3 un n (ndc L js)
 rows:RwO W Z.heap.size L js
 box:Blk W gb 27 #[un,vr]
 roots:W.ownsRow Z.heap.size 59 2 vr R.length (spc R)
 only:Only nob Z W
theorem LP19.nob {Z W w':World} {gb n:Nat} {L:List Nd} {R:List Sp} {js:List (Value×Value)} {un vr:Value} (h:LP19 Z W gb n L R js un vr) (o:Only nob W w'):LP19 Z w' gb n L R js un vr:=
 ⟨h.ln,h.len,Za h.nodes o (fun _ _=>id),h.rows.nob o,h.box.keep o id,Za h.roots o (fun _ _=>id),h.only.trans o⟩
theorem LP19.node {Z W W1 W2:World} {gb n:Nat} {L:List Nd} {R:List Sp} {js:List (Value×Value)} {un un' vr fv rv:Value} {d:Nd} (h:LP19 Z W gb n L R js un vr) (hb:Z.heap.size≤gb) (hf:NdO W Z.heap.size d (fv,rv)) (H:W1.ownsRow Z.heap.size 56 3 un' (n+1) (ndc (L++[d]) (js++[(fv,rv)])))
 (o:Only (fun k=>un.ownBlock=some k) W W1) (hx:Blk W1 gb 27 #[un,vr]) (o2:Only (isb gb) W1 W2) (hbx:Blk W2 gb 27 #[un',vr]):LP19 Z W2 gb (n+1) (L++[d]) R (js++[(fv,rv)]) un' vr:=by
 have hrow: ∀{d' h'},NdO W Z.heap.size d' h'→NdO W2 Z.heap.size d' h':=fun {d' h'} hd=>by
  have h1:=hd.only o (ZK hd.fs h.nodes (by decide)) (ZK hd.rs h.nodes (by decide));exact h1.only o2 (ZdS hx h1.fs (by decide)) (ZdS hx h1.rs (by decide))
 have hr1:=Za h.roots o (ZK h.roots h.nodes (by decide));refine⟨by simp[h.ln],by simp[h.len],Za H o2 (ZdS hx H (by decide)),?_,hbx,Za hr1 o2 (ZdS hx hr1 (by decide)),(h.only.andThen o fun i hi e=>by have:=(Zh h.nodes e).1;omega).andThen o2 fun i hi e=>by unfold isb at e;omega⟩;exact RwO.snoc (fun i d' h' hd' hh'=>hrow (h.rows i d' h' hd' hh')) h.len (hrow hf)
theorem LP19.done {Z W U:World} {gb n r:Nat} {L:List Nd} {R:List Sp} {js:List (Value×Value)} {un vr:Value} (h:LP19 Z W gb n L R js un vr) (o':Only (isb r) W U) (hz:r<Z.heap.size):RdG U U.heap.size ⟨L,R⟩ un vr js:=by
 have hlt: ∀{W:World} {b E s n v x},W.ownsRow b E s v n x→Z.heap.size≤b→ ∀j,v.ownBlock=some j→ ¬isb r j:=fun {W b E s n v x} hw hb j e e2=>by
  unfold isb at e2
  have:=(Zh hw e).1
  omega
 have hrow: ∀{d' h'},NdO W Z.heap.size d' h'→NdO U Z.heap.size d' h':=fun {d' h'} hd=>
  hd.only o' (hlt hd.fs (Yj _)) (hlt hd.rs (Yj _))
 have hn2:=Za h.nodes o' (hlt h.nodes (Yj _));have hr2:=Za h.roots o' (hlt h.roots (Yj _));refine⟨h.len,?_,fun i d' h' hd' hh'=>(hrow (h.rows i d' h' hd' hh')).rd,Sl.of_own hr2 hr2.1⟩;rw[show(⟨L,R⟩:Gr).nd.length=n from h.ln];exact Sl.of_own hn2 hn2.1
theorem ZkS (s:St) (vw vt vf vs:Value) (B:Nat) (w:World) (h:Rd w B s vw vt vf vs) (hB:B≤w.heap.size) (hok:StOk s) (hpar:Par w) (hL:Zbh s=0→s.objs.length≤1000000):
 Calls Tryz.prog 15 #[.agg #[.int .i64 s.cf.semi,.int .i64 s.cf.large,.int .i64 s.cf.slots,.int .i64 s.cf.limit,.bool s.sec,vw,.int .i64 s.top,vt,vf,vs]] w fun e w'=> ∃un ur js v,e=.returned (.tuple #[.agg #[un,ur],v,.int .i64 (obE s)])∧RdG w' w'.heap.size (liG s) un ur js∧Sl w' w'.heap.size 1 v (obL s).length (i64s (obL s))∧Only nob w w':=by
 obtain⟨i0,hi0,hz0,hz1,hz2⟩:=info_parts Zbz;have hmm:=@run_makeMap Tryz.prog;obtain⟨Aw,cw,rfl,haw,hcw⟩:=h.words.form;obtain⟨Al,cl,rfl,hal,hcl⟩:=h.slots.form;unfold maxLen at hcw hcl;obtain⟨V0,hV0,HB0⟩:=ZW w s (.slice Aw s.ws.length cw) vt vf (.slice Al s.sl.length cl);obtain⟨V,hV,HBV⟩:=Zbj V0 (.slice none 0 0) (.slice none 0 0);have HV0:=ZZ hV0;have HV:=ZZ hV
 obtain⟨sb,hsb⟩: ∃p,p=w.heap.size:=⟨_,rfl⟩
 have hr:V0.heap.size=sb+1:=by rw[← hV0,hsb];simp
 have hrV:sb+1<V.heap.size:=by rw[← hr];exact HBV.out.2.lt
 have HSB:=ZZ hsb;have OV:=ZZ (HB0.out.1.trans HBV.out.1);have SB:=ZZ (HB0.out.2.2.keep HBV.out.1);rw[← hsb] at SB;have RB:=ZZ HBV.out.2;rw[hr] at RB;have HR:=ZZ h;have HOK:=ZZ hok;have HBB:=ZZ hB;have HPAR:=ZZ hpar;have HOBJ:=ZZ (ZoP s _ _ _ _ B V (h.only OV.out hB) (Yi hB OV.out.size) hok (hpar.old OV.out));have HLY:=ZZ (Zm7 (s:=s));have HLN:=ZZ (Ztw (s:=s));have HOY:=ZZ (Zom (s:=s));have HON:=ZZ (Zq7 (s:=s));have HFW:=ZZ hL;have HMY:=ZZ (ZgP (s:=s));obtain⟨c0,c1,c2,c3,c4,c5,c6,c7,c8,c9⟩:=SB.out
 obtain⟨G,hG⟩: ∃G,G=liG s:=⟨_,rfl⟩
 obtain⟨E,hE⟩: ∃E,E=obE s:=⟨_,rfl⟩
 obtain⟨M,hM⟩: ∃M,M=obL s:=⟨_,rfl⟩
 obtain⟨q,hq⟩: ∃q,q=Zbh s:=⟨_,rfl⟩
 rw[← hG, ← hq] at HLY HLN;rw[← hE, ← hM, ← hq] at HOY HON;rw[← hq] at HFW HMY;rw[← hE, ← hM] at HOBJ;rw[← hG, ← hE, ← hM];clear hV0 hV h hB hok hpar hL hG hE hM hq hsb hr
 go_enter Tryz.func15,Tryz.ntmps15
 go_upto_region 1 with fail
 rw[HV0.out,HV.out, ← HSB.out]
 go_wp2_with fail
 go_at_call 37;refine HOBJ.out.mono ?_;rintro e Z ⟨v1,rfl,hs1,o⟩;have S1:=ZZ hs1;obtain⟨A1,k1,rfl,hac,hcm⟩:=hs1.form;unfold maxLen at hcm;have OZ:=ZZ (OV.out.trans o);have SZ:=ZZ (SB.out.keep o);have RZ:=ZZ (RB.out.keep o id);have hrZ:sb+1<Z.heap.size:=Yw hrV o.size;clear hs1 o c0 c1 c2 c3 c4 c5 c6 c7 c8 c9 hrV;by_cases hq0:q=0
 case neg=>
  obtain⟨hE4,hM0⟩:=HON.out hq0;have HG0:=ZZ (HLN.out hq0);have HM0:=ZZ hM0;subst hE4;obtain⟨U,hU,oU,U1⟩:=Zbx RZ.out (.slice none 0 0) (.slice none 0 0);have HU:=ZZ hU;have OU:=ZZ (OZ.out.andThen oU fun i hi e=>by unfold isb at e;have:=HSB.out;omega);have b0:Z.cell? ⟨sb+1,0,none⟩=some (.slice none 0 0):=RZ.out.cell 0;have b1:Z.cell? ⟨sb+1,1,none⟩=some (.slice none 0 0):=RZ.out.cell 1;have fb0:=RZ.out.free 0;have fb1:=RZ.out.free 1;clear hU oU hM0 hq0 hmm;go_wp2;rw[HU.out];have r0:U.cell? ⟨sb+1,0,none⟩=some (.slice none 0 0):=U1.cell 0;have r1:U.cell? ⟨sb+1,1,none⟩=some (.slice none 0 0):=U1.cell 1;refine bodyPost_ret (v:=.tuple #[.agg #[.slice none 0 0,.slice none 0 0],.slice none 0 0,.int .i64 4]) (by simp[results,Tryz.results15,go_sem,r0,r1]) rfl ?_;exact⟨_,_,[],_,rfl,by rw[HG0.out];exact ZeH _,by rw[HM0.out];exact Sl.nil_,OU.out⟩
 case pos=>
 obtain⟨hE0,hMO⟩:=HOY.out hq0;subst hE0;have HGY:=ZZ (HLY.out hq0);have hN:=HFW.out hq0;have HMAY:=ZZ (HMY.out.1 hq0);have HMO:=ZZ hMO;rw[hMO] at S1 hac ⊢
 obtain⟨N,hNn⟩: ∃N,N=s.objs.length:=⟨_,rfl⟩
 rw[← hNn] at hac hN ⊢;have HN:=ZZ hNn;have HND:=ZZ (Zlh HMAY.out)
 have HOI:=ZZ (show ∀x∈s.objs,I64 x from fun x hx=>by
  obtain⟨n,rfl,hn, -⟩:=HMAY.out.far hx
  have:=HOK.out.few.1
  unfold I64;omega)
 obtain⟨mp,hmp⟩: ∃mp,mp=Z.heap.size:=⟨_,rfl⟩
 obtain⟨Y,hY,oY,nY⟩: ∃Y,Z.alloc (.map #[] 0)=Y∧Only nob Z Y∧Zfx Y Z.heap.size 0 []:=⟨_,rfl,(Only.refl nob Z).alloc _,Zfx.new Z⟩
 have HY:=ZZ hY
 obtain⟨X,hX,oX,bX⟩: ∃X,Y.alloc (.cells #[.map (some mp)] 85)=X∧Only nob Y X∧Blk X Y.heap.size 85 #[.map (some mp)]:=⟨_,rfl,(Only.refl nob Y).alloc _,Blk.new _ _ _⟩
 have HX:=ZZ hX
 have hYs:Y.heap.size=mp+1:=by rw[← hY,hmp];simp
 have HMP:=ZZ hmp;rw[← hmp] at nY;have OX:=ZZ (oY.trans oX);have NX:=ZZ (nY.keep oX id);have BX:=ZZ bX;rw[hYs] at BX;have HYS:=ZZ hYs;clear hMO hNn hq0 hmp hY oY nY hX oX bX hYs
 go_upto_region 5 with fail
 rw[HY.out, ← HMP.out,HX.out];clear hmm
 go_wp2_with fail
 go_loopw [8,9,26] (fun _ _ vi wr=> ∃k:Nat,k≤N∧vi=.int .i64 k∧Hid (Zfx wr mp k (s.objs.take k))∧Hid (Blk wr (mp+1) 85 #[.map (some mp)])∧Hid (Only nob Z wr)) (fun _ _ vi _=>N - (RowKit.intOf vi).toNat)
 case atStart=>exact⟨0,Yu _,rfl,ZZ (by rw[List.take_zero];exact NX.out),BX,OX⟩
 case round=>
 obtain⟨k,hk,rfl,HNM,HBK,HO⟩:=hrel;by_cases hlt:k<N
 case pos=>
  obtain⟨x,hx⟩: ∃x,s.objs[k]? =some x:=⟨_,Ya (by rw[← HN.out];exact hlt)⟩
  obtain⟨bt,ot,hA1,hbt,t0⟩:=ZaO S1.out (HO.out.below (Yj _) fun _ h=>h.elim) hx;subst hA1;have hxi:=HOI.out x (Yo hx)
  have htl:(s.objs.take k).length=k:=by rw[List.length_take, ← HN.out];omega
  have hni:x∉s.objs.take k:=fun hin=>by
   obtain⟨j,hj⟩:=List.getElem?_of_mem hin
   have hjk:j<k:=by have:=(Yk.1 hj).1;omega
   rw[List.getElem?_take,if_pos hjk] at hj
   have:=ZbB HND.out hj hx
   omega
  have hput:=HNM.out.put x hxi hni (by omega);rw[htl, ← Zbs hx] at hput;obtain⟨w2,hrun,hp2,o2⟩:=hput;have HRUN:=ZZ hrun;have HP2:=ZZ hp2;have O2:=ZZ (HO.out.andThen o2 fun i hi e=>by unfold isb at e;have:=HMP.out;omega);have B2:=ZZ (HBK.out.keep o2 fun e=>by unfold isb at e;omega);have m0:wr.cell? ⟨mp+1,0,none⟩=some (.map (some mp)):=HBK.out.cell 0;unfold I64 at hxi;clear hx hni htl hrun hp2 o2
  go_wp2_with (first|(at_mapUpdate;refine ZdI _ rfl _ _ _ _ rfl _ _ _ rfl rfl rfl _ HRUN.out ?_)|fail)
  go_roundw
  case rel=>exact⟨k+1,by omega,by go_num,HP2,B2,O2⟩
  case measure=>simp[RowKit.intOf];omega
 case neg=>
 obtain rfl:k=N:=by omega
 have HTK:=ZZ (show s.objs.take k=s.objs by rw[HN.out,List.take_length]);have NF:=ZZ (show Zfx wr mp k s.objs by have:=HNM.out;rwa [HTK.out] at this);have HTN:=ZZ (ZfS HBK.out NF.out)
 obtain⟨we,rfl⟩: ∃we:World,we=wr:=⟨_,rfl⟩
 obtain⟨N,rfl⟩: ∃n:Nat,n=k:=⟨_,rfl⟩
 have OE:=ZZ (OZ.out.trans HO.out);have SE:=ZZ (SZ.out.keep HO.out);have HSW:=ZZ (Zsh s _ _ _ _ B we (HR.out.only OE.out HBB.out) (Yi HBB.out OE.out.size) HOK.out);have HRT:=ZZ (show(swL s.sl).map (valL s.objs)=ZmL s.objs s.sl by unfold swL ZmL;rw[List.map_map];rfl)
 have HPW:=ZZ (show ∀x∈swL s.sl,x<18446744073709551616∧leads s.objs x=true from fun x hx=>by
  unfold swL at hx;obtain⟨t,ht,rfl⟩:=List.mem_map.1 hx
  exact⟨ZsE HOK.out.sl ht,ZiJ HMAY.out ht⟩)
 have HPL:=ZZ (show(swL s.sl).length≤1000000 by
  unfold swL;rw[List.length_map];have h1:=Zo7 s.sl;have h2:=HOK.out.few.2.2.2
  omega)
 obtain⟨c0,c1,c2,c3,c4,c5,c6,c7,c8,c9⟩:=SE.out;clear hk hlt
 go_wp2_with fail
 go_at_call 41;refine HSW.out.mono ?_;rintro e w5 ⟨v5,rfl,hs5,o5⟩;have O5:=ZZ o5;have HTU:=ZZ (Zjy v5 (swL s.sl) 38 #[.pointer (some ⟨mp+1,0,none⟩)] _ _ w5.heap.size w5 (HTN.out.on o5) hs5 (Yj _) HPL.out HPW.out);rw[HRT.out] at HTU;clear hs5 o5 c0 c1 c2 c3 c4 c5 c6 c7 c8 c9
 go_wp2_with fail
 go_at_call 40;refine HTU.out.mono ?_;rintro e w6 ⟨vr,rfl,own6,o6⟩;obtain⟨Ar,cr,rfl, -⟩:=Zi own6;obtain⟨w7,h7,HB7⟩:=Zbj w6 (.slice none 0 0) (.slice Ar (ZmL s.objs s.sl).length cr);have HW7:=ZZ h7;have O57:=ZZ (O5.out.trans (o6.trans HB7.out.1))
 obtain⟨gb,hgb⟩: ∃p,p=w6.heap.size:=⟨_,rfl⟩
 have HGB:=ZZ (show Z.heap.size≤gb by rw[hgb];exact(HO.out.trans (O5.out.trans o6)).size);have HGE:=ZZ hgb;have LP0:=ZZ (show LP19 Z w7 gb 0 [] (ZmL s.objs s.sl) [] (.slice none 0 0) (.slice Ar (ZmL s.objs s.sl).length cr) from⟨rfl,rfl,World.ownsRow_nil _ _ _ _,(fun i d h hd _=>by simp at hd),by rw[hgb];exact HB7.out.2,Za (Zaf own6 fun k e=>Yi (HO.out.trans O5.out).size (Zh own6 e).1) HB7.out.1 (fun _ _=>id),HO.out.trans O57.out⟩)
 obtain⟨R,hRR⟩: ∃R,R=ZmL s.objs s.sl:=⟨_,rfl⟩
 have HGR:=ZZ (show G=⟨s.objs.map (liN s.objs s.ws),R⟩ by rw[HGY.out,hRR]);rw[← hRR] at LP0 HW7
 obtain⟨rl,hrl⟩: ∃n,n=R.length:=⟨_,rfl⟩
 have MB0:=ZZ (And.intro (NF.out.keep O57.out id) (HBK.out.keep O57.out id));rw[← hrl] at LP0 HW7;rw[← hRR, ← hrl];clear own6 o6 h7 hgb hRR hrl
 go_upto_region 12 with fail
 rw[HW7.out, ← HGE.out]
 go_wp2_with fail
 go_loopw [13,43] (fun _ vi wx=> ∃(k:Nat) (js:List (Value×Value)) (Ax:Option Addr) (cx:Nat),k≤N∧vi=.int .i64 k∧Hid (LP19 Z wx gb k ((s.objs.take k).map (liN s.objs s.ws)) R js (.slice Ax k cx) (.slice Ar rl cr))∧Hid (Zfx wx mp N s.objs∧Blk wx (mp+1) 85 #[.map (some mp)])) (fun _ vi _=>N - (RowKit.intOf vi).toNat)
 case atStart=>exact⟨0,[],none,0,Yu _,rfl,LP0,MB0⟩
 case round=>
 obtain⟨k,js,Ax,cx,hk,rfl,HLI,HMB⟩:=hrel;have OW:=ZZ (OZ.out.trans HLI.out.only);have SW:=ZZ (SZ.out.keep HLI.out.only);by_cases hlt:k<N
 case pos=>
  obtain⟨x0,hx⟩: ∃x,s.objs[k]? =some x:=⟨_,Ya (by rw[← HN.out];exact hlt)⟩
  obtain⟨bt,ot,hA1,hbt,t0⟩:=ZaO S1.out (HLI.out.only.below (Yj _) fun _ h=>h.elim) hx;subst hA1
  obtain⟨P,hP⟩: ∃P,P=(s.objs.take k).map (liN s.objs s.ws):=⟨_,rfl⟩
  rw[← hP] at HLI;have HTK2:=ZZ (show(s.objs.take (k+1)).map (liN s.objs s.ws)=P++[liN s.objs s.ws x0] by rw[hP,Zbs hx,List.map_append];rfl);obtain⟨n0,hn0, -⟩:=HMAY.out.far (Yo hx);subst hn0;have hmem:(n0:Int)∈s.objs:=Yo hx
  have HNODE:=ZZ (show ∀W',Only nob wr W'→Calls Tryz.prog 42 #[.agg #[.int .i64 s.cf.semi,.int .i64 s.cf.large,.int .i64 s.cf.slots,.int .i64 s.cf.limit,.bool s.sec,.slice Aw s.ws.length cw,.int .i64 s.top,vt,vf,.slice Al s.sl.length cl],.int .i64 (n0:Nat),.func (.func 38) #[] #[.pointer (some ⟨mp+1,0,none⟩)]] W' fun e w'=> ∃v1 v2,e=.returned (.agg #[.int .i64 (liN s.objs s.ws n0).kd,v1,v2])∧NdO w' W'.heap.size (liN s.objs s.ws n0) (v1,v2)∧Only nob W' w' from fun W' o=>
   Zt0 s n0 _ _ _ _ _ _ B W' (HR.out.only (OW.out.trans o) HBB.out) (Yi HBB.out (OW.out.trans o).size) HOK.out (HPAR.out.old (OW.out.trans o)) HMAY.out hmem (ZfS (HMB.out.2.keep o id) (HMB.out.1.keep o id)))
  obtain⟨d,hd⟩: ∃d,d=liN s.objs s.ws n0:=⟨_,rfl⟩
  rw[← hd] at HTK2 HNODE;have g0:wr.cell? ⟨gb,0,none⟩=some (.slice Ax k cx):=HLI.out.box.cell 0;obtain⟨c0,c1,c2,c3,c4,c5,c6,c7,c8,c9⟩:=SW.out;clear hx hP hd hmem
  go_upto_region 15 with fail
  clear t0;refine Zdy (stop:=9) (S:=fun w':World=>w'.cell? ⟨gb,0,none⟩=some (.slice Ax k cx)∧w'.cell? ⟨sb,0,none⟩=some (.int .i64 s.cf.semi)∧w'.cell? ⟨sb,1,none⟩=some (.int .i64 s.cf.large)∧w'.cell? ⟨sb,2,none⟩=some (.int .i64 s.cf.slots)∧w'.cell? ⟨sb,3,none⟩=some (.int .i64 s.cf.limit)∧w'.cell? ⟨sb,4,none⟩=some (.bool s.sec)∧w'.cell? ⟨sb,5,none⟩=some (.slice Aw s.ws.length cw)∧w'.cell? ⟨sb,6,none⟩=some (.int .i64 s.top)∧w'.cell? ⟨sb,7,none⟩=some (vt)∧w'.cell? ⟨sb,8,none⟩=some (vf)∧w'.cell? ⟨sb,9,none⟩=some (.slice Al s.sl.length cl)) (by kernel_rfl) ⟨g0,c0,c1,c2,c3,c4,c5,c6,c7,c8,c9⟩ (fun hHeld=>?_)
  have hS: ∀W',W'.cell? ⟨gb,0,none⟩=some (.slice Ax k cx)→Only nob wr W'→(fun w':World=>w'.cell? ⟨gb,0,none⟩=some (.slice Ax k cx)∧w'.cell? ⟨sb,0,none⟩=some (.int .i64 s.cf.semi)∧w'.cell? ⟨sb,1,none⟩=some (.int .i64 s.cf.large)∧w'.cell? ⟨sb,2,none⟩=some (.int .i64 s.cf.slots)∧w'.cell? ⟨sb,3,none⟩=some (.int .i64 s.cf.limit)∧w'.cell? ⟨sb,4,none⟩=some (.bool s.sec)∧w'.cell? ⟨sb,5,none⟩=some (.slice Aw s.ws.length cw)∧w'.cell? ⟨sb,6,none⟩=some (.int .i64 s.top)∧w'.cell? ⟨sb,7,none⟩=some (vt)∧w'.cell? ⟨sb,8,none⟩=some (vf)∧w'.cell? ⟨sb,9,none⟩=some (.slice Al s.sl.length cl)) W':=fun W' g o=>by
   have k9:=SW.out.keep o;exact⟨g,k9.c0,k9.c1,k9.c2,k9.c3,k9.c4,k9.c5,k9.c6,k9.c7,k9.c8,k9.c9⟩
  have OD:=ZZ (show Only nob wr wr.drew from(Only.refl nob wr).drewN 1);generalize wr.drew=WD at hHeld OD ⊢;refine Zs (i:=0) (v:=?_) rfl (by kernel_rfl) (by kernel_rfl) (by kernel_rfl) (by kernel_rfl) (fun _ _ _ h=>h) (Or.inl ⟨by rfl,?_⟩) hHeld ?_;rotate_left
  · intro w hSw;(try dsimp only at hSw);go_simp;first|done|with_reducible rfl
  try simp only[Act.put,Yb,Yd,Yc,Yh,Yf,Yg]
  refine Zs (i:=1) (v:=?_) rfl (by kernel_rfl) (by kernel_rfl) (by kernel_rfl) (by kernel_rfl) (fun _ _ _ h=>h) (Or.inl ⟨by rfl,?_⟩) hHeld ?_;rotate_left
  · intro w hSw;(try dsimp only at hSw);go_simp;first|done|with_reducible rfl
  try simp only[Act.put,Yb,Yd,Yc,Yh,Yf,Yg]
  refine Zs (i:=2) (v:=?_) rfl (by kernel_rfl) (by kernel_rfl) (by kernel_rfl) (by kernel_rfl) (fun _ _ _ h=>h) (Or.inl ⟨by rfl,?_⟩) hHeld ?_;rotate_left
  · intro w hSw;(try dsimp only at hSw);go_simp;first|done|with_reducible rfl
  try simp only[Act.put,Yb,Yd,Yc,Yh,Yf,Yg]
  refine Zs (i:=3) (v:=?_) rfl (by kernel_rfl) (by kernel_rfl) (by kernel_rfl) (by kernel_rfl) (fun _ _ _ h=>h) (Or.inl ⟨by rfl,?_⟩) hHeld ?_;rotate_left
  · intro w hSw;(try dsimp only at hSw);go_simp;first|done|with_reducible rfl
  try simp only[Act.put,Yb,Yd,Yc,Yh,Yf,Yg]
  refine Zs (i:=4) (v:=?_) rfl (by kernel_rfl) (by kernel_rfl) (by kernel_rfl) (by kernel_rfl) (fun _ _ _ h=>h) (Or.inl ⟨by rfl,?_⟩) hHeld ?_;rotate_left
  · intro w hSw;(try dsimp only at hSw);go_simp;first|done|with_reducible rfl
  try simp only[Act.put,Yb,Yd,Yc,Yh,Yf,Yg]
  refine ZD (rs:=[5]) (by kernel_rfl) (by simp) ?_;refine(ZcN.cons rfl (fun K hK=>?_) ZcN.nil);go_simp;go_at_call 42;refine(HNODE.out WD OD.out).mono ?_;rintro e X1 ⟨v1,v2,rfl,hno,o⟩;obtain⟨A3,c3',e3, -⟩:=Zi hno.fs;obtain⟨A4,c4',e4, -⟩:=Zi hno.rs;simp only at e3 e4;subst e3 e4;have HNO:=ZZ hno;have O1:=ZZ (OD.out.trans o);clear o hno;refine hK.out _ _ (fun _=>(hS _ (O1.out.keeps g0) O1.out)) (fun hHeld2=>?_);clear hK K hHeld;have hHeld:=hHeld2 (by decide);clear hHeld2
  try simp only[Act.put,Yb,Yd,Yc,Yh,Yf,Yg]
  refine ZD (rs:=[6]) (by kernel_rfl) (by simp) ?_;refine(ZcN.cons rfl (fun K hK=>?_) ZcN.nil)
  obtain⟨X2,hX2,o2,b2⟩: ∃X,X1.alloc (.cells #[.int .i64 d.kd,.slice A3 d.fs.length c3',.slice A4 d.rs.length c4'] 56)=X∧Only nob X1 X∧Blk X X1.heap.size 56 #[.int .i64 d.kd,.slice A3 d.fs.length c3',.slice A4 d.rs.length c4']:=⟨_,rfl,(Only.refl nob X1).alloc _,Blk.new X1 _ _⟩
  have HX2:=ZZ hX2;have O12:=ZZ o2;have O2:=ZZ (O1.out.trans o2);have B2:=ZZ b2;clear hX2 o2 b2;go_simp
  with_reducible rw[HX2.out]
  refine hK.out _ _ (fun _=>(hS _ (O2.out.keeps g0) O2.out)) (fun hHeld2=>?_);clear hK K hHeld;have hHeld:=hHeld2 (by decide);clear hHeld2
  try simp only[Act.put,Yb,Yd,Yc,Yh,Yf,Yg]
  refine ZD (rs:=[7]) (by kernel_rfl) (by simp) ?_;refine(ZcN.cons rfl (fun K hK=>?_) ZcN.nil);have LI2:=ZZ (HLI.out.nob O2.out);refine Zcv _ (by rfl) _ _ _ (by rfl) Z.heap.size 56 i0 _ 3 56 Tryz.underlying24 hi0 hz0 hz1 hz2 (by rfl) (by decide) (.slice Ax k cx) k (ndc P js) (by rfl) LI2.out.nodes X2.heap.size (.slice (some ⟨X1.heap.size,0,none⟩) 1 1) 1 [.int .i64 d.kd,.slice A3 d.fs.length c3',.slice A4 d.rs.length c4'] (by rfl) (Sl.of_blk (size:=3) (n:=1) (c:=1) B2.out rfl (Yj _) (by decide)) (Zf5 _ _ _ _ _ _ _) (by unfold maxLen;omega) (by omega) (by have h1:=LI2.out.only.size;omega) ?_;intro v6 X6 H6 o6 _;obtain⟨A6,c6',rfl, -⟩:=Zi H6.out;have BG6:=ZZ (LI2.out.box.keep o6 (blk_own_ne16 LI2.out.box LI2.out.nodes (by decide)));have O6:=ZZ (Zdn LI2.out.only LI2.out.nodes o6 (Yj _));have S6:=ZZ (SZ.out.keep O6.out);have MB2:=And.intro (HMB.out.1.keep O2.out id) (HMB.out.2.keep O2.out id);have MB6:=ZZ (And.intro (MB2.1.keep o6 (MB2.1.ne_own LI2.out.nodes)) (MB2.2.keep o6 (blk_own_ne16 MB2.2 LI2.out.nodes (by decide))));have H66:=ZZ H6.out;have O66:=ZZ o6;clear H6 o6 MB2;refine hK.out _ _ (fun _=>⟨BG6.out.cell 0,S6.out.c0,S6.out.c1,S6.out.c2,S6.out.c3,S6.out.c4,S6.out.c5,S6.out.c6,S6.out.c7,S6.out.c8,S6.out.c9⟩) (fun hHeld2=>?_);clear hK K hHeld;have hHeld:=hHeld2 (by decide);clear hHeld2
  try simp only[Act.put,Yb,Yd,Yc,Yh,Yf,Yg]
  refine Zs (i:=8) (v:=?_) rfl (by kernel_rfl) (by kernel_rfl) (by kernel_rfl) (by kernel_rfl) (fun _ _ _ h=>h) (Or.inl ⟨by rfl,?_⟩) hHeld ?_;rotate_left
  · intro w hSw;(try dsimp only at hSw);go_simp;first|done|with_reducible rfl
  try simp only[Act.put,Yb,Yd,Yc,Yh,Yf,Yg]
  refine ZD (rs:=[9]) (by kernel_rfl) (by simp) ?_;refine(ZcN.cons rfl (fun K hK=>?_) ZcN.nil);have y1:X6.cell? ⟨gb,0,none⟩=some (.slice Ax k cx):=BG6.out.cell 0;have fy1:=BG6.out.free 0
  obtain⟨X7,hX7,o7,b7⟩: ∃X,X6.setCell ⟨gb,0,none⟩ (.slice A6 (k+1) c6')=X∧Only (isb gb) X6 X∧Blk X gb 27 #[.slice A6 (k+1) c6',.slice Ar rl cr]:=⟨_,rfl,Zc _ _ _ _,by simpa using BG6.out.put 0 (.slice A6 (k+1) c6')⟩
  have HX7:=ZZ hX7
  have HND1:=ZZ (show NdO X2 Z.heap.size d (.slice A3 d.fs.length c3',.slice A4 d.rs.length c4') from by
   have hz9:Z.heap.size≤WD.heap.size:=(HLI.out.only.trans OD.out).size;have h9:=HNO.out.nob O12.out
   exact⟨Zaf h9.fs fun j e=>Yi hz9 (Zh h9.fs e).1,Zaf h9.rs fun j e=>Yi hz9 (Zh h9.rs e).1⟩)
  have LI7:=ZZ (show LP19 Z X7 gb (k+1) ((s.objs.take (k+1)).map (liN s.objs s.ws)) R (js++[(.slice A3 d.fs.length c3',.slice A4 d.rs.length c4')]) (.slice A6 (k+1) c6') (.slice Ar rl cr) from by
   rw[HTK2.out];refine LI2.out.node HGB.out HND1.out ?_ O66.out BG6.out o7 b7;rw[Zeb _ _ _ _ LI2.out.len]
   exact H66.out)
  have MB7:=ZZ (And.intro (MB6.out.1.keep o7 fun e=>MB6.out.1.ne_blk BG6.out e.symm) (MB6.out.2.keep o7 fun e=>Zm2 BG6.out MB6.out.2 (by decide) e.symm));clear hX7 o7 b7;go_simp
  with_reducible rw[HX7.out]
  clear y1 fy1 hHeld;refine hK.out _ _ (fun h=>absurd rfl h) (fun hHeld2=>?_);clear hK K hHeld2
  try simp only[Act.put,Yb,Yd,Yc,Yh,Yf,Yg]
  refine ZeJ (by kernel_rfl) ?_ _;clear g0 c0 c1 c2 c3 c4 c5 c6 c7 c8 c9 hS;go_wp2
  go_roundw
  case rel=>exact⟨k+1,_,A6,c6',by omega,by go_num,LI7,MB7⟩
  case measure=>simp[RowKit.intOf];omega
 case neg=>
 obtain rfl:k=N:=by omega
 have LIF:=ZZ (show LP19 Z wr gb k (s.objs.map (liN s.objs s.ws)) R js (.slice Ax k cx) (.slice Ar rl cr) by have:=HLI.out;rwa [show s.objs.take k=s.objs by rw[HN.out,List.take_length]] at this);have RF:=ZZ (RZ.out.keep HLI.out.only id);obtain⟨U,hU,oU,U1⟩:=Zbx RF.out (.slice Ax k cx) (.slice Ar rl cr);have HU:=ZZ hU;have OU:=ZZ (OW.out.andThen oU fun i hi e=>by unfold isb at e;have:=HSB.out;omega);have HRD:=ZZ (LIF.out.done oU hrZ);have SX:=ZZ ((S1.out.below (HLI.out.only.below (Yj _) fun _ h=>h.elim)).more HLI.out.only.size);have HSU:=ZZ (SX.out.off18 RF.out oU fun hn=>by cases hc:s.objs with|nil=>rw[hc] at hn;simp at hn|cons x l=>exact⟨_,_,rfl⟩);have g0:wr.cell? ⟨gb,0,none⟩=some (.slice Ax k cx):=LIF.out.box.cell 0;have g1:wr.cell? ⟨gb,1,none⟩=some (.slice Ar rl cr):=LIF.out.box.cell 1;have b0:wr.cell? ⟨sb+1,0,none⟩=some (.slice none 0 0):=RF.out.cell 0;have b1:wr.cell? ⟨sb+1,1,none⟩=some (.slice none 0 0):=RF.out.cell 1;have fb0:=RF.out.free 0;have fb1:=RF.out.free 1;clear hU oU;go_wp2;rw[HU.out];have r0:U.cell? ⟨sb+1,0,none⟩=some (.slice Ax k cx):=U1.cell 0;have r1:U.cell? ⟨sb+1,1,none⟩=some (.slice Ar rl cr):=U1.cell 1;refine bodyPost_ret (v:=.tuple #[.agg #[.slice Ax k cx,.slice Ar rl cr],.slice A1 k k1,.int .i64 0]) (by simp[results,Tryz.results15,go_sem,r0,r1]) rfl ?_;exact⟨_,_,js,_,rfl,by rw[HGR.out];exact HRD.out,by have h9:=HSU.out;rw[HMO.out];rw[← HN.out] at h9 ⊢;exact h9,OU.out⟩
end Go.Proofs.YtknoncenblehkaaGreatDoor
