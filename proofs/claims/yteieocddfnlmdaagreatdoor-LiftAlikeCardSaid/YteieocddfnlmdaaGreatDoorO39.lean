/- The document's own answer for layer 19: a heap as a graph. ( -/
import Derived.Test.YteieocddfnlmdaaGreatDoorO38
set_option maxRecDepth 100000
set_option maxHeartbeats 32000000
set_option linter.unusedSimpArgs false
set_option linter.unusedVariables false
namespace Go.Proofs.YteieocddfnlmdaaGreatDoor
open Go.RowKit Go.Lib
structure LI19 (Z W:World) (gb n:Nat) (L:List Nd) (js:List (Value×Value)) (un:Value):Prop where
 ln:L.length=n
 len:js.length=L.length
 nodes:W.ownsRow Z.heap.size 54 3 un n (ndc L js)
 rows:RwO W Z.heap.size L js
 box:Blk W gb 34 #[un,.slice none 0 0]
 only:Only nob Z W
theorem LI19.nob {Z W w':World} {gb n:Nat} {L:List Nd} {js:List (Value×Value)} {un:Value} (h:LI19 Z W gb n L js un) (o:Only nob W w'):LI19 Z w' gb n L js un:=
 ⟨h.ln,h.len,Zb h.nodes o (fun _ _=>id),h.rows.nob o,h.box.keep o id,h.only.trans o⟩
theorem ZF {W:World} {gb b s n:Nat} {E t:TypeId} {v:Value} {x cs} (hb:Blk W gb t cs) (h:W.ownsRow b E s v n x) (hE:t≠E): ∀j,v.ownBlock=some j→ ¬isb gb j:=fun j e e2=>by
 unfold isb at e2;subst e2;exact blk_own_ne16 hb h hE e
theorem LI19.node {Z W W1 W2:World} {gb n:Nat} {L:List Nd} {js:List (Value×Value)} {un un' fv rv:Value} {d:Nd} (h:LI19 Z W gb n L js un) (hb:Z.heap.size≤gb) (hf:NdO W Z.heap.size d (fv,rv)) (H:W1.ownsRow Z.heap.size 54 3 un' (n+1) (ndc (L++[d]) (js++[(fv,rv)])))
 (o:Only (fun k=>un.ownBlock=some k) W W1) (hx:Blk W1 gb 34 #[un,.slice none 0 0]) (o2:Only (isb gb) W1 W2) (hbx:Blk W2 gb 34 #[un',.slice none 0 0]):LI19 Z W2 gb (n+1) (L++[d]) (js++[(fv,rv)]) un':=by
 have hrow: ∀{d' h'},NdO W Z.heap.size d' h'→NdO W2 Z.heap.size d' h':=fun {d' h'} hd=>by
  have h1:=hd.only o (Zv hd.fs h.nodes (by decide)) (Zv hd.rs h.nodes (by decide));exact h1.only o2 (ZF hx h1.fs (by decide)) (ZF hx h1.rs (by decide))
 refine⟨by simp[h.ln],by simp[h.len],Zb H o2 (ZF hx H (by decide)),?_,hbx,(h.only.andThen o fun i hi e=>by have:=(Zl h.nodes e).1;omega).andThen o2 fun i hi e=>by unfold isb at e;omega⟩;exact RwO.snoc (fun i d' h' hd' hh'=>hrow (h.rows i d' h' hd' hh')) h.len (hrow hf)
theorem LI19.done {Z w5 w6 U:World} {gb n r:Nat} {L:List Nd} {R:List Sp} {js:List (Value×Value)} {un ur:Value} (h:LI19 Z w5 gb n L js un) (o:Only (isb gb) w5 w6) (hr:w6.ownsRow w5.heap.size 63 2 ur R.length (spc R)) (o':Only (isb r) w6 U) (hz:r<Z.heap.size):RdG U U.heap.size ⟨L,R⟩ un ur js:=by
 have hlt: ∀{W:World} {b E s n v x},W.ownsRow b E s v n x→Z.heap.size≤b→ ∀j,v.ownBlock=some j→ ¬isb r j:=fun {W b E s n v x} hw hb j e e2=>by
  unfold isb at e2
  have:=(Zl hw e).1
  omega
 have hrow: ∀{d' h'},NdO w5 Z.heap.size d' h'→NdO U Z.heap.size d' h':=fun {d' h'} hd=>by
  have h1:=hd.only o (ZF h.box hd.fs (by decide)) (ZF h.box hd.rs (by decide));exact h1.only o' (hlt h1.fs (Yj _)) (hlt h1.rs (Yj _))
 have hn:=Zb h.nodes o (ZF h.box h.nodes (by decide));have hn2:=Zb hn o' (hlt hn (Yj _));have hr2:=Zb hr o' (hlt hr h.only.size);refine⟨h.len,?_,fun i d' h' hd' hh'=>(hrow (h.rows i d' h' hd' hh')).rd,Sl.of_own hr2 hr2.1⟩;rw[show(⟨L,R⟩:Gr).nd.length=n from h.ln];exact Sl.of_own hn2 hn2.1
theorem Ztz {all:List Int} {l:List Nat} {p:Int} {j:Nat} (h:j<(ohF l p).toNat):(Zlz all l p)[j]? =some (ZcH all (wd l (p+1+(j:Nat)).toNat)):=by
 unfold Zlz;rw[List.getElem?_map,List.getElem?_range h];rfl
theorem Zte {l:List Nat} {p:Int} {j:Nat} (h:j<(ohR l p).toNat):(Zm2 l p)[j]? =some (wd l (p+1+ohF l p+(j:Nat)).toNat):=by
 unfold Zm2;rw[List.getElem?_map,List.getElem?_range h];rfl
theorem Zpy {l:List Nat} {p:Nat} (h:p<l.length):l[p]? =some (wd l p):=by
 unfold wd;rw[Yn,Ya h];rfl
theorem Z1 {α:Type} {l:List α} {j:Nat} {x:α} (h:l[j]? =some x):l.take (j+1)=l.take j++[x]:=by
 rw[List.take_add_one,h];rfl
def Ztf (f:FuncId):Prop:= ∀(s:St) (vw vt vf vs:Value) (B:Nat) (w:World),Rd w B s vw vt vf vs→B≤w.heap.size→StOk s→Par w→ZV s=false→
 Calls Tryz.prog f #[.agg #[.int .i64 s.cf.semi,.int .i64 s.cf.large,.int .i64 s.cf.slots,.int .i64 s.cf.limit,.bool s.sec,vw,.int .i64 s.top,vt,vf,vs]] w fun e w'=> ∃un ur js v,e=.returned (.tuple #[.agg #[un,ur],v,.int .i64 (obE s)])∧RdG w' w'.heap.size (liG s) un ur js∧Sl w' w'.heap.size 1 v (obL s).length (i64s (obL s))∧Only nob w w'
theorem ZoE:Ztf 9:=by
 intro s vw vt vf vs B w h hB hok hpar hL;obtain⟨i0,hi0,hz0,hz1,hz2⟩:=info_parts Zbt;obtain⟨j0,hj0,hjz0,hjz1,hjz2⟩:=info_parts Zec;obtain⟨l0,hl0,hlz0,hlz1,hlz2⟩:=info_parts ZcS;obtain⟨Aw,cw,rfl,haw,hcw⟩:=h.words.form;obtain⟨Al,cl,rfl,hal,hcl⟩:=h.slots.form;unfold maxLen at hcw hcl;have hfew:=ZeS hL;obtain⟨V0,hV0,HB0⟩:=Zu w s (.slice Aw s.ws.length cw) vt vf (.slice Al s.sl.length cl);obtain⟨V,hV,HBV⟩:=ZG V0 (.slice none 0 0) (.slice none 0 0);have HV0:=ZZ hV0;have HV:=ZZ hV
 obtain⟨sb,hsb⟩: ∃p,p=w.heap.size:=⟨_,rfl⟩
 have hr:V0.heap.size=sb+1:=by rw[← hV0,hsb];simp
 have hrV:sb+1<V.heap.size:=by rw[← hr];exact HBV.out.2.lt
 have HSB:=ZZ hsb;have OV:=ZZ (HB0.out.1.trans HBV.out.1);have SB:=ZZ (HB0.out.2.2.keep HBV.out.1);rw[← hsb] at SB;have RB:=ZZ HBV.out.2;rw[hr] at RB;have HR:=ZZ h;have HOK:=ZZ hok;have HBB:=ZZ hB;have HOBJ:=ZZ (ZmK s _ _ _ _ B V (h.only OV.out hB) (Yi hB OV.out.size) hok (hpar.old OV.out));have HHD:=ZZ (fun (a:Int) (W':World) (o:Only nob w W')=>ZcF (.slice Aw s.ws.length cw) B s.ws a W' (h.only o hB).words (Yi hB o.size) hok.ws hok.few.1);have HLY:=ZZ (Zdi (s:=s));have HLN:=ZZ (Zll (s:=s));have HOY:=ZZ (Zbv (s:=s));have HON:=ZZ (ZcA (s:=s));have HFW:=ZZ (fun h0=>ZdM (s:=s) (ZaF.1 h0) hL);have HMY:=ZZ (ZaF (s:=s));obtain⟨c0,c1,c2,c3,c4,c5,c6,c7,c8,c9⟩:=SB.out
 obtain⟨G,hG⟩: ∃G,G=liG s:=⟨_,rfl⟩
 obtain⟨E,hE⟩: ∃E,E=obE s:=⟨_,rfl⟩
 obtain⟨M,hM⟩: ∃M,M=obL s:=⟨_,rfl⟩
 obtain⟨q,hq⟩: ∃q,q=Zal s:=⟨_,rfl⟩
 rw[← hG, ← hq] at HLY HLN;rw[← hE, ← hM, ← hq] at HOY HON;rw[← hq] at HFW HMY;rw[← hE, ← hM] at HOBJ;rw[← hG, ← hE, ← hM];clear hV0 hV h hB hok hpar hL hG hE hM hq hsb hr
 go_enter Tryz.func9,Tryz.ntmps9
 go_upto_region 1 with fail
 rw[HV0.out,HV.out, ← HSB.out]
 go_wp2_with fail
 go_at_call 32;refine HOBJ.out.mono ?_;rintro e Z ⟨v1,rfl,hs1,o⟩;have S1:=ZZ hs1;obtain⟨A1,k1,rfl,hac,hcm⟩:=hs1.form;unfold maxLen at hcm;have OZ:=ZZ (OV.out.trans o);have SZ:=ZZ (SB.out.keep o);have RZ:=ZZ (RB.out.keep o id);have hrZ:sb+1<Z.heap.size:=Yw hrV o.size;obtain⟨X,hX,HBX⟩:=ZG Z (.slice none 0 0) (.slice none 0 0);have HX:=ZZ hX
 obtain⟨gb,hgb⟩: ∃p,p=Z.heap.size:=⟨_,rfl⟩
 have HGB:=ZZ hgb;have GX:=ZZ HBX.out.2;rw[← hgb] at GX;have OX:=ZZ HBX.out.1;clear hs1 o hX hgb c0 c1 c2 c3 c4 c5 c6 c7 c8 c9 hrV
 go_upto_region 3 with fail
 rw[HX.out, ← HGB.out];by_cases hq0:q=0
 case neg=>
  obtain⟨hE4,hM0⟩:=HON.out hq0;have HG0:=ZZ (HLN.out hq0);have HM0:=ZZ hM0;subst hE4;have RX:=RZ.out.keep OX.out id;obtain⟨U,hU,oU,U1⟩:=ZaS RX (.slice none 0 0) (.slice none 0 0);have HU:=ZZ hU;have OU:=ZZ ((OZ.out.trans OX.out).andThen oU fun i hi e=>by unfold isb at e;have:=HSB.out;omega);have g0:X.cell? ⟨gb,0,none⟩=some (.slice none 0 0):=GX.out.cell 0;have g1:X.cell? ⟨gb,1,none⟩=some (.slice none 0 0):=GX.out.cell 1;have b0:X.cell? ⟨sb+1,0,none⟩=some (.slice none 0 0):=RX.cell 0;have b1:X.cell? ⟨sb+1,1,none⟩=some (.slice none 0 0):=RX.cell 1;have fb0:=RX.free 0;have fb1:=RX.free 1;clear hU oU hM0 hq0 RX;go_wp2;rw[HU.out];have r0:U.cell? ⟨sb+1,0,none⟩=some (.slice none 0 0):=U1.cell 0;have r1:U.cell? ⟨sb+1,1,none⟩=some (.slice none 0 0):=U1.cell 1;refine bodyPost_ret (v:=.tuple #[.agg #[.slice none 0 0,.slice none 0 0],.slice none 0 0,.int .i64 4]) (by simp[results,Tryz.results9,go_sem,r0,r1]) rfl ?_;exact⟨_,_,[],_,rfl,by rw[HG0.out];exact Zd5 _,by rw[HM0.out];exact Sl.nil_,OU.out⟩
 case pos=>
 obtain⟨hE0,hMO⟩:=HOY.out hq0;subst hE0;have HGY:=ZZ (HLY.out hq0);have hN:=HFW.out hq0;have HMAY:=ZZ (HMY.out.1 hq0);have HMO:=ZZ hMO;rw[hMO] at S1 hac ⊢
 obtain⟨N,hNn⟩: ∃N,N=s.objs.length:=⟨_,rfl⟩
 rw[← hNn] at hac hN ⊢;have HN:=ZZ hNn;have HTN:=ZZ (fun (x:Nat) (W':World) (o:Only nob Z W') (hx:x<18446744073709551616)=>Zto (.slice A1 s.objs.length k1) s.objs x Z.heap.size W' (S1.out.below (o.below (Yj _) fun _ h=>h.elim)) o.size hx);rw[← hNn] at HTN;have LI0:=ZZ (show LI19 Z X gb 0 [] [] (.slice none 0 0) from⟨rfl,rfl,World.ownsRow_nil _ _ _ _,(fun i d h hd _=>by simp at hd),GX.out,OX.out⟩);clear hMO hNn hq0
 go_wp2_with fail
 go_loopw [8,9,10,11,12,13] (fun i _ _ _ _ _ wr=> ∃(k:Nat) (js:List (Value×Value)) (Ax:Option Addr) (cx:Nat),k≤N∧i=.int .i64 k∧Hid (LI19 Z wr gb k ((s.objs.take k).map (liN s.objs s.ws)) js (.slice Ax k cx))) (fun i _ _ _ _ _ _=>N - (RowKit.intOf i).toNat)
 case atStart=>exact⟨0,[],none,0,Yu _,rfl,LI0⟩
 case round=>
 obtain⟨k,js,Ax,cx,hk,rfl,HLI⟩:=hrel;have OW:=ZZ (OZ.out.trans HLI.out.only);have SW:=ZZ (SZ.out.keep HLI.out.only);by_cases hlt:k<N
 case pos=>
  obtain⟨x0,hx⟩: ∃x,s.objs[k]? =some x:=⟨_,Ya (by rw[← HN.out];exact hlt)⟩
  obtain⟨bt,ot,hA1,hbt,t0⟩:=ZbE S1.out (HLI.out.only.below (Yj _) fun _ h=>h.elim) hx;subst hA1;have HX0:=ZZ hx
  obtain⟨P,hP⟩: ∃P,P=(s.objs.take k).map (liN s.objs s.ws):=⟨_,rfl⟩
  rw[← hP] at HLI;have HTK:=ZZ (show(s.objs.take (k+1)).map (liN s.objs s.ws)=P++[liN s.objs s.ws x0] by rw[hP,Z1 hx,List.map_append];rfl);clear hP;have hbn:=Zaq (HMAY.out.head (Yo hx)).1;obtain⟨hb1,hb2,hb3,hb4,hb5,hb6, -⟩:=hbn
  obtain⟨x0,rfl⟩: ∃n:Nat,x0=(n:Int):=⟨x0.toNat,by omega⟩
  obtain⟨F,hF⟩: ∃F:Nat,ohF s.ws x0=(F:Int):=⟨(ohF s.ws x0).toNat,by omega⟩
  obtain⟨R,hRr⟩: ∃R:Nat,ohR s.ws x0=(R:Int):=⟨(ohR s.ws x0).toNat,by omega⟩
  obtain⟨FS,hFS⟩: ∃FS,FS=Zlz s.objs s.ws x0:=⟨_,rfl⟩
  obtain⟨RS,hRS⟩: ∃RS,RS=Zm2 s.ws x0:=⟨_,rfl⟩
  have HFL:=ZZ (show FS.length=F by rw[hFS];unfold Zlz;rw[List.length_map,List.length_range,hF];rfl);have HRL:=ZZ (show RS.length=R by rw[hRS];unfold Zm2;rw[List.length_map,List.length_range,hRr];rfl);have HFA:=ZZ (show ∀j:Nat,j<F→FS[j]? =some (ZcH s.objs (wd s.ws (x0+1+j))) from fun j hj=>by rw[hFS,Ztz (by rw[hF];exact hj),show((x0:Int)+1+(j:Nat)).toNat=x0+1+j by omega]);have HRA:=ZZ (show ∀j:Nat,j<R→RS[j]? =some (wd s.ws (x0+1+F+j)) from fun j hj=>by rw[hRS,Zte (by rw[hRr];exact hj),hF,show((x0:Int)+1+(F:Int)+(j:Nat)).toNat=x0+1+F+j by omega])
  obtain⟨Kd,hK⟩: ∃K,K=ohK s.ws x0:=⟨_,rfl⟩
  obtain⟨Mk,hMk⟩: ∃M,M=ohM s.ws x0:=⟨_,rfl⟩
  obtain⟨Cu,hCu⟩: ∃M,M=ohC s.ws x0:=⟨_,rfl⟩
  obtain⟨Ye,hYe⟩: ∃M,M=ohE s.ws x0:=⟨_,rfl⟩
  have HND:=ZZ (show liN s.objs s.ws x0=⟨Kd,FS,RS⟩ by unfold liN;rw[hK,hFS,hRS]);rw[hF,hRr] at hb4
  have hb5':F≤4096:=by omega
  have hb6':R≤4096:=by omega
  have HH:=ZZ (show ∀W',Only nob wr W'→Calls Tryz.prog 33 #[.slice Aw s.ws.length cw,.int .i64 (x0:Nat)] W' fun e w'=>e=.returned (.tuple #[.agg #[.int .i64 Kd,.int .i64 (F:Nat),.int .i64 (R:Nat),.bool Mk,.int .i64 Cu],.int .i64 Ye])∧Only nob W' w' from fun W' o=>by
   rw[hK,hMk,hCu,hYe, ← hF, ← hRr]
   exact HHD.out x0 W' (OW.out.trans o))
  obtain⟨c0,c1,c2,c3,c4,c5,c6,c7,c8,c9⟩:=SW.out;have HN0:=ZZ (show Only nob wr wr.drew from(Only.refl nob wr).drewN 1);have HN1:=ZZ (show Only nob wr (wr.alloc (.cells #[.int .i64 0,.int .i64 0,.int .i64 0,.bool false,.int .i64 0] 72)).drew from((Only.refl nob wr).alloc _).drewN 1);clear hx hF hRr hFS hRS hK hMk hCu hYe hb1 hb2 hb5 hb6 c0 c1 c2 c3 c4 c6 c7 c8 c9
  go_upto_region 8 with fail
  go_cut [9] (fun sp wx=> ∃bq:Nat,sp=.pointer (some ⟨bq,0,none⟩)∧Hid (Only nob wr wx∧Blk wx bq 72 #[.int .i64 Kd,.int .i64 (F:Nat),.int .i64 (R:Nat),.bool Mk,.int .i64 Cu]))
  case first=>
   go_region_held3 (fun w'=>w'.cell? ⟨sb,5,none⟩=some (.slice Aw s.ws.length cw)∧w'.cell? ⟨bt,ot+k,none⟩=some (.int .i64 (x0:Nat))) (first|(with_reducible exact C1.out)|(with_reducible exact And.intro ((O5.out.alloc _).keeps c5) ((O5.out.alloc _).keeps t0))|(with_reducible exact And.intro (HN0.out.keeps c5) (HN0.out.keeps t0))|(with_reducible exact And.intro (((Only.refl nob wr).alloc _).keeps c5) (((Only.refl nob wr).alloc _).keeps t0))|go_keep|with_reducible exact And.intro ((only_five O5.out (Yj _) _ _ _ _ _).keeps c5) ((only_five O5.out (Yj _) _ _ _ _ _).keeps t0))
    ((go_at_call 33
      first
      |(with_reducible refine(HH.out wr.drew HN0.out).mono ?_
        rintro e w5 ⟨rfl,o⟩;have O5:=ZZ o.drewL;have TA:=True.intro;have C1:=ZZ (And.intro (O5.out.keeps c5) (O5.out.keeps t0))
        clear o)
      |(with_reducible refine(HH.out (wr.alloc (.cells #[.int .i64 0,.int .i64 0,.int .i64 0,.bool false,.int .i64 0] 72)).drew HN1.out).mono ?_
        rintro e w5 ⟨rfl,o⟩;have O5:=ZZ (((Only.refl nob wr).alloc (.cells #[.int .i64 0,.int .i64 0,.int .i64 0,.bool false,.int .i64 0] 72)).trans o.drewL);have BZ:=ZZ ((Blk.new wr 72 #[.int .i64 0,.int .i64 0,.int .i64 0,.bool false,.int .i64 0]).keep o.drewL id);have TB:=True.intro;obtain⟨y0,y1,y2,y3,y4⟩:=Zj BZ.out;obtain⟨z0,z1,z2,z3,z4⟩:=ZaG BZ.out;have C1:=ZZ (And.intro (O5.out.keeps c5) (O5.out.keeps t0))
        clear o)))
   all_goals
    first
    |(clear TA
      obtain⟨W5,hW5,HBX2⟩:=Zz w5 Kd (F:Nat) (R:Nat) Mk Cu;have HW5:=ZZ hW5;clear hW5;rw[HW5.out];go_wp2
      go_meet
      exact⟨_,rfl,ZZ ⟨O5.out.trans HBX2.out.1,HBX2.out.2⟩⟩)
    |(clear TB y0 y1 y2 y3 y4 z0 z1 z2 z3 z4
      obtain⟨W5,hW5,OX,BX⟩:=Zbw O5.out (Yj _) BZ.out (.int .i64 Kd) (.int .i64 (F:Nat)) (.int .i64 (R:Nat)) (.bool Mk) (.int .i64 Cu);rw[hW5];go_wp2
      go_meet
      exact⟨_,rfl,ZZ ⟨OX,BX⟩⟩)
  case rest=>
  obtain⟨bq,rfl,HC5⟩:=hcut
  obtain⟨W5,rfl⟩: ∃W5:World,W5=wc:=⟨_,rfl⟩
  clear c5 t0;have LI5:=ZZ (HLI.out.nob HC5.out.1);have h0:W5.cell? ⟨bq,0,none⟩=some (.int .i64 Kd):=HC5.out.2.cell 0;have h1:W5.cell? ⟨bq,1,none⟩=some (.int .i64 (F:Nat)):=HC5.out.2.cell 1;have h2:W5.cell? ⟨bq,2,none⟩=some (.int .i64 (R:Nat)):=HC5.out.2.cell 2;obtain⟨X6,hX6,HB6⟩:=Zat W5 Kd (.slice none 0 0) (.slice none 0 0);have HX6:=ZZ hX6
  obtain⟨p,hp⟩: ∃p,p=W5.heap.size:=⟨_,rfl⟩
  have HP:=ZZ hp;have BN6:=ZZ HB6.out.2.1;rw[← hp] at BN6;have O56:=ZZ HB6.out.1;have T5:=ZZ (S1.out);clear hX6 hp
  go_upto_region 10 with fail
  rw[HX6.out, ← HP.out];clear h0
  go_wp2_with fail
  have HCL:=ZZ (show ∀W':World,Only nob W5 W'→W'.cell? ⟨sb,5,none⟩=some (.slice Aw s.ws.length cw)∧W'.cell? ⟨bt,ot+k,none⟩=some (.int .i64 (x0:Nat))∧W'.cell? ⟨bq,1,none⟩=some (.int .i64 (F:Nat))∧W'.cell? ⟨bq,2,none⟩=some (.int .i64 (R:Nat)) from fun W' o=>⟨(SW.out.keep (HC5.out.1.trans o)).c5,by
   obtain⟨b2,o2,e2, -,t2⟩:=ZbE S1.out ((LI5.out.only.trans o).below (Yj _) fun _ h=>h.elim) HX0.out
   obtain⟨rfl,rfl⟩:bt=b2∧ot=o2:=by simpa using e2
   exact t2,o.keeps h1,o.keeps h2⟩)
  have HWD:=ZZ (show ∀(a:Nat) (W':World),Only nob W5 W'→a<s.ws.length→ ∃b o,Aw=some ⟨b,o,none⟩∧W'.cell? ⟨b,o+a,none⟩=some (.int .u64 (wd s.ws a:Nat)) from fun a W' o ha=>by
   obtain⟨b,oo,e, -,c⟩:=ZcE HR.out.words ((OW.out.trans (HC5.out.1.trans o)).below HBB.out fun _ h=>h.elim) (Zpy ha)
   exact⟨b,oo,e,c⟩)
  have hsz:(x0:Int)+1+F+R≤s.ws.length:=by omega
  clear h1 h2 hb3 hb4
  go_loopw [12] (fun vj wx=> ∃(j:Nat) (Af:Option Addr) (cf:Nat),j≤F∧vj=.int .i64 j∧Hid (wx.ownsRow W5.heap.size 63 2 (.slice Af j cf) j (spc (FS.take j)))∧Hid (Blk wx p 54 #[.int .i64 Kd,.slice Af j cf,.slice none 0 0])∧Hid (Only nob W5 wx)) (fun vj _=>F - (RowKit.intOf vj).toNat)
  case atStart=>exact⟨0,none,0,Yu _,rfl,ZZ (World.ownsRow_nil _ _ _ _),BN6,O56⟩
  case round=>
  obtain⟨j,Af,cf,hj,rfl,HFR,HBN,HO5⟩:=hrel;obtain⟨c5,t0,h1,h2⟩:=HCL.out _ HO5.out;by_cases hjlt:j<F
  case pos=>
   obtain⟨bw,ow,hAw,cw0⟩:=HWD.out (x0+1+j) _ HO5.out (by omega);subst hAw;have HAT:=ZZ (Z1 (HFA.out j hjlt));have hwl:=Zmw HOK.out.ws (x0+1+j)
   obtain⟨y,hy⟩: ∃y,y=wd s.ws (x0+1+j):=⟨_,rfl⟩
   rw[← hy] at cw0 hwl HAT;have d1:wr.cell? ⟨p,1,none⟩=some (.slice Af j cf):=HBN.out.cell 1
   have m1:IntKind.i64.wrap ((x0:Int)+1)=((x0+1:Nat):Int):=by rw[IntKind.wrap_i64];omega
   have m2:IntKind.i64.wrap (((x0+1:Nat):Int)+(j:Int))=((x0+1+j:Nat):Int):=by rw[IntKind.wrap_i64];omega
   have hi:x0+1+j<s.ws.length:=by omega
   obtain⟨ix,hix⟩: ∃ix,ix=x0+1+j:=⟨_,rfl⟩
   rw[← hix] at m2 hi cw0 hy;have HY:=ZZ hy
   obtain⟨x1,hx1⟩: ∃x1,x1=x0+1:=⟨_,rfl⟩
   rw[← hx1] at m1 m2;clear hix hx1 hy
   go_wp2_with fail
   refine ZaY (stop:=18) (S:=fun w':World=>w'.cell? ⟨p,1,none⟩=some (.slice Af j cf)∧w'.cell? ⟨sb,5,none⟩=some (.slice (some ⟨bw,ow,none⟩) s.ws.length cw)∧w'.cell? ⟨bt,ot+k,none⟩=some (.int .i64 (x0:Nat))∧w'.cell? ⟨bw,ow+ix,none⟩=some (.int .u64 (y:Nat))) (by kernel_rfl) ⟨d1,c5,t0,cw0⟩ (fun hHeld=>?_);have OD:=ZZ (show Only nob wr wr.drew from(Only.refl nob wr).drewN 1);generalize wr.drew=WD at hHeld OD ⊢;refine Zc (i:=0) (v:=?_) rfl (by kernel_rfl) (by kernel_rfl) (by kernel_rfl) (by kernel_rfl) (fun _ _ _ h=>h) (Or.inl ⟨by rfl,?_⟩) hHeld ?_;rotate_left
   · intro w hSw;(try dsimp only at hSw);go_simp;first|done|with_reducible rfl
   try simp only[Act.put,Yb,Yd,Yc,Yh,Yf,Yg]
   refine Zc (i:=1) (v:=?_) rfl (by kernel_rfl) (by kernel_rfl) (by kernel_rfl) (by kernel_rfl) (fun _ _ _ h=>h) (Or.inl ⟨by rfl,?_⟩) hHeld ?_;rotate_left
   · intro w hSw;(try dsimp only at hSw);go_simp;first|done|with_reducible rfl
   try simp only[Act.put,Yb,Yd,Yc,Yh,Yf,Yg]
   refine Zc (i:=2) (v:=?_) rfl (by kernel_rfl) (by kernel_rfl) (by kernel_rfl) (by kernel_rfl) (fun _ _ _ h=>h) (Or.inl ⟨by rfl,?_⟩) hHeld ?_;rotate_left
   · intro w hSw;(try dsimp only at hSw);go_simp;first|done|with_reducible rfl
   try simp only[Act.put,Yb,Yd,Yc,Yh,Yf,Yg]
   refine Zc (i:=3) (v:=?_) rfl (by kernel_rfl) (by kernel_rfl) (by kernel_rfl) (by kernel_rfl) (fun _ _ _ h=>h) (Or.inl ⟨by rfl,?_⟩) hHeld ?_;rotate_left
   · intro w hSw;(try dsimp only at hSw);go_simp;first|done|with_reducible rfl
   try simp only[Act.put,Yb,Yd,Yc,Yh,Yf,Yg]
   refine Zc (i:=4) (v:=?_) rfl (by kernel_rfl) (by kernel_rfl) (by kernel_rfl) (by kernel_rfl) (fun _ _ _ h=>h) (Or.inl ⟨by rfl,?_⟩) hHeld ?_;rotate_left
   · intro w hSw;(try dsimp only at hSw);go_simp;first|done|with_reducible rfl
   try simp only[Act.put,Yb,Yd,Yc,Yh,Yf,Yg]
   refine Zc (i:=5) (v:=?_) rfl (by kernel_rfl) (by kernel_rfl) (by kernel_rfl) (by kernel_rfl) (fun _ _ _ h=>h) (Or.inl ⟨by rfl,?_⟩) hHeld ?_;rotate_left
   · intro w hSw;(try dsimp only at hSw);go_simp;first|done|with_reducible rfl
   try simp only[Act.put,Yb,Yd,Yc,Yh,Yf,Yg]
   refine Zc (i:=6) (v:=?_) rfl (by kernel_rfl) (by kernel_rfl) (by kernel_rfl) (by kernel_rfl) (fun _ _ _ h=>h) (Or.inl ⟨by rfl,?_⟩) hHeld ?_;rotate_left
   · intro w hSw;(try dsimp only at hSw);go_simp;first|done|with_reducible rfl
   try simp only[Act.put,Yb,Yd,Yc,Yh,Yf,Yg]
   refine Zc (i:=7) (v:=?_) rfl (by kernel_rfl) (by kernel_rfl) (by kernel_rfl) (by kernel_rfl) (fun _ _ _ h=>h) (Or.inl ⟨by rfl,?_⟩) hHeld ?_;rotate_left
   · intro w hSw;(try dsimp only at hSw);go_simp;first|done|with_reducible rfl
   try simp only[Act.put,Yb,Yd,Yc,Yh,Yf,Yg]
   refine Zc (i:=8) (v:=?_) rfl (by kernel_rfl) (by kernel_rfl) (by kernel_rfl) (by kernel_rfl) (fun _ _ _ h=>h) (Or.inl ⟨by rfl,?_⟩) hHeld ?_;rotate_left
   · intro w hSw;(try dsimp only at hSw);go_simp;first|done|with_reducible rfl
   try simp only[Act.put,Yb,Yd,Yc,Yh,Yf,Yg]
   refine Zc (i:=9) (v:=?_) rfl (by kernel_rfl) (by kernel_rfl) (by kernel_rfl) (by kernel_rfl) (fun _ _ _ h=>h) (Or.inl ⟨by rfl,?_⟩) hHeld ?_;rotate_left
   · intro w hSw;(try dsimp only at hSw);go_simp;first|done|with_reducible rfl
   try simp only[Act.put,Yb,Yd,Yc,Yh,Yf,Yg]
   refine Zc (i:=10) (v:=?_) rfl (by kernel_rfl) (by kernel_rfl) (by kernel_rfl) (by kernel_rfl) (fun _ _ _ h=>h) (Or.inl ⟨by rfl,?_⟩) hHeld ?_;rotate_left
   · intro w hSw;(try dsimp only at hSw);go_simp;first|done|with_reducible rfl
   try simp only[Act.put,Yb,Yd,Yc,Yh,Yf,Yg]
   refine Zc (i:=11) (v:=?_) rfl (by kernel_rfl) (by kernel_rfl) (by kernel_rfl) (by kernel_rfl) (fun _ _ _ h=>h) (Or.inl ⟨by rfl,?_⟩) hHeld ?_;rotate_left
   · intro w hSw;(try dsimp only at hSw);go_simp;first|done|with_reducible rfl
   try simp only[Act.put,Yb,Yd,Yc,Yh,Yf,Yg]
   refine Zc (i:=12) (v:=?_) rfl (by kernel_rfl) (by kernel_rfl) (by kernel_rfl) (by kernel_rfl) (fun _ _ _ h=>h) (Or.inl ⟨by rfl,?_⟩) hHeld ?_;rotate_left
   · intro w hSw;(try dsimp only at hSw);go_simp;first|done|with_reducible rfl
   try simp only[Act.put,Yb,Yd,Yc,Yh,Yf,Yg]
   refine Zc (i:=13) (v:=?_) rfl (by kernel_rfl) (by kernel_rfl) (by kernel_rfl) (by kernel_rfl) (fun _ _ _ h=>h) (Or.inl ⟨by rfl,?_⟩) hHeld ?_;rotate_left
   · intro w hSw;(try dsimp only at hSw);go_simp;first|done|with_reducible rfl
   try simp only[Act.put,Yb,Yd,Yc,Yh,Yf,Yg]
   refine Zp (rs:=[14]) (by kernel_rfl) (by simp) ?_;refine(Za6.cons rfl (fun K hK=>?_) Za6.nil);rw[if_pos (by rfl)];go_simp;go_at_call 34;refine(HTN.out y WD (LI5.out.only.trans (HO5.out.trans OD.out)) hwl).mono ?_;rintro e X1 ⟨rfl,o⟩;have O1:=ZZ (OD.out.trans o);clear o;refine hK.out _ _ (fun _=>⟨O1.out.keeps d1,O1.out.keeps c5,O1.out.keeps t0,O1.out.keeps cw0⟩) (fun hHeld2=>?_);clear hK K hHeld;have hHeld:=hHeld2 (by decide);clear hHeld2
   try simp only[Act.put,Yb,Yd,Yc,Yh,Yf,Yg]
   refine Zp (rs:=[15]) (by kernel_rfl) (by simp) ?_;refine(Za6.cons rfl (fun K hK=>?_) Za6.nil);obtain⟨X2,hX2,HB2⟩:=ZbK X1 (ZcH s.objs y).1 (ZcH s.objs y).2;have HX2:=ZZ hX2;have O2:=ZZ (O1.out.trans HB2.out.1);clear hX2;go_simp
   with_reducible rw[HX2.out]
   refine hK.out _ _ (fun _=>⟨O2.out.keeps d1,O2.out.keeps c5,O2.out.keeps t0,O2.out.keeps cw0⟩) (fun hHeld2=>?_);clear hK K hHeld;have hHeld:=hHeld2 (by decide);clear hHeld2
   try simp only[Act.put,Yb,Yd,Yc,Yh,Yf,Yg]
   refine Zp (rs:=[16]) (by kernel_rfl) (by simp) ?_;refine(Za6.cons rfl (fun K hK=>?_) Za6.nil);have HFX:=ZZ (Zb HFR.out O2.out fun _ _=>id);refine ZX _ (by rfl) _ _ _ (by rfl) W5.heap.size 63 j0 _ 2 16 Tryz.underlying32 hj0 hjz0 hjz1 hjz2 (by rfl) (by decide) (.slice Af j cf) j (spc (FS.take j)) (by rfl) HFX.out (X1.heap.size+1) (.slice (some ⟨X1.heap.size,0,none⟩) 1 1) 1 (spc [ZcH s.objs y]) (by rfl) (by rw[← HX2.out];exact Zic X1 _ _) (Zfw _) (by unfold maxLen;omega) (by omega) (by have:=HO5.out.size;have:=O2.out.size;omega) ?_;intro v6 X6 H6 o6 _;obtain⟨A6,c6,rfl, -⟩:=Zi H6.out;have BN6:=ZZ ((HBN.out.keep O2.out id).keep o6 (blk_own_ne16 (HBN.out.keep O2.out id) HFX.out (by decide)));have O6:=ZZ (Zay (HO5.out.trans O2.out) HFX.out o6 (Yj _));have HF6:=ZZ (show X6.ownsRow W5.heap.size 63 2 (.slice A6 (j+1) c6) (j+1) (spc (FS.take (j+1))) by rw[HAT.out,ZiB];exact H6.out);obtain⟨q5,q0, -, -⟩:=HCL.out X6 O6.out;obtain⟨bw2,ow2,e2,qw⟩:=HWD.out ix X6 O6.out hi
   obtain⟨rfl,rfl⟩:bw=bw2∧ow=ow2:=by simpa using e2
   clear H6 o6 e2;refine hK.out _ _ (fun _=>⟨BN6.out.cell 1,q5,q0,qw.trans (by rw[HY.out])⟩) (fun hHeld2=>?_);clear hK K hHeld;have hHeld:=hHeld2 (by decide);clear hHeld2
   try simp only[Act.put,Yb,Yd,Yc,Yh,Yf,Yg]
   refine Zc (i:=17) (v:=?_) rfl (by kernel_rfl) (by kernel_rfl) (by kernel_rfl) (by kernel_rfl) (fun _ _ _ h=>h) (Or.inl ⟨by rfl,?_⟩) hHeld ?_;rotate_left
   · intro w hSw;(try dsimp only at hSw);go_simp;first|done|with_reducible rfl
   try simp only[Act.put,Yb,Yd,Yc,Yh,Yf,Yg]
   refine Zp (rs:=[18]) (by kernel_rfl) (by simp) ?_;refine(Za6.cons rfl (fun K hK=>?_) Za6.nil);have y1:X6.cell? ⟨p,1,none⟩=some (.slice Af j cf):=BN6.out.cell 1;have fy1:=BN6.out.free 1
   obtain⟨X7,hX7,o7,b7⟩: ∃X,X6.setCell ⟨p,1,none⟩ (.slice A6 (j+1) c6)=X∧Only (isb p) X6 X∧Blk X p 54 #[.int .i64 Kd,.slice A6 (j+1) c6,.slice none 0 0]:=⟨_,rfl,Zd _ _ _ _,by simpa using BN6.out.put 1 (.slice A6 (j+1) c6)⟩
   have HX7:=ZZ hX7;have O7:=ZZ (O6.out.andThen o7 fun i hi e=>by unfold isb at e;have:=HP.out;omega);have BN7:=ZZ b7;have HF7:=ZZ (Zb HF6.out o7 (ZF BN6.out HF6.out (by decide)));clear hX7 o7 b7;go_simp
   with_reducible rw[HX7.out]
   clear y1 fy1 hHeld;refine hK.out _ _ (fun h=>absurd rfl h) (fun hHeld2=>?_);clear hK K hHeld2
   try simp only[Act.put,Yb,Yd,Yc,Yh,Yf,Yg]
   refine ZbL (by kernel_rfl) ?_ _;clear c5 t0 h1 h2 d1 cw0 q5 q0 qw m1 m2;go_wp2
   go_roundw
   case rel=>exact⟨j+1,A6,c6,by omega,by go_num,HF7,BN7,O7⟩
   case measure=>simp[RowKit.intOf];omega
  case neg=>
  obtain rfl:j=F:=by omega
  have HFR:=ZZ (show wr.ownsRow W5.heap.size 63 2 (.slice Af j cf) j (spc FS) by have:=HFR.out;rwa [show FS.take j=FS by rw[← HFL.out,List.take_length]] at this);have BNE:=ZZ HBN.out;have OWE:=ZZ HO5.out
  obtain⟨we,rfl⟩: ∃we:World,we=wr:=⟨_,rfl⟩
  clear t0 c5 h2
  go_wp2_with fail
  clear h1 hjlt
  go_loopw [13] (fun vj wx=> ∃(i:Nat) (Ag:Option Addr) (cg:Nat),i≤R∧vj=.int .i64 i∧Hid (wx.ownsRow W5.heap.size 48 1 (.slice Ag i cg) i (u64s (RS.take i)))∧Hid (wx.ownsRow W5.heap.size 63 2 (.slice Af j cf) j (spc FS))∧Hid (Blk wx p 54 #[.int .i64 Kd,.slice Af j cf,.slice Ag i cg])∧Hid (Only nob W5 wx)) (fun vj _=>R - (RowKit.intOf vj).toNat)
  case atStart=>exact⟨0,none,0,Yu _,rfl,ZZ (World.ownsRow_nil _ _ _ _),HFR,BNE,OWE⟩
  case round=>
  obtain⟨i,Ag,cg,hi0',rfl,HGR,HFR,HBN,HO5⟩:=hrel;obtain⟨c5,t0,h1,h2⟩:=HCL.out _ HO5.out;by_cases hilt:i<R
  case pos=>
   obtain⟨bw,ow,hAw,cw0⟩:=HWD.out (x0+1+j+i) _ HO5.out (by omega);subst hAw;have HAT:=ZZ (Z1 (HRA.out i hilt));have hwl:=Zmw HOK.out.ws (x0+1+j+i)
   obtain⟨y,hy⟩: ∃y,y=wd s.ws (x0+1+j+i):=⟨_,rfl⟩
   rw[← hy] at cw0 hwl HAT;have d2:wr.cell? ⟨p,2,none⟩=some (.slice Ag i cg):=HBN.out.cell 2
   have m1:IntKind.i64.wrap ((x0:Int)+1)=((x0+1:Nat):Int):=by rw[IntKind.wrap_i64];omega
   have m2:IntKind.i64.wrap (((x0+1:Nat):Int)+(j:Int))=((x0+1+j:Nat):Int):=by rw[IntKind.wrap_i64];omega
   have m3:IntKind.i64.wrap (((x0+1+j:Nat):Int)+(i:Int))=((x0+1+j+i:Nat):Int):=by rw[IntKind.wrap_i64];omega
   have hi:x0+1+j+i<s.ws.length:=by omega
   obtain⟨ix,hix⟩: ∃ix,ix=x0+1+j+i:=⟨_,rfl⟩
   rw[← hix] at m3 hi cw0 hy;have HY:=ZZ hy
   obtain⟨x2,hx2⟩: ∃x2,x2=x0+1+j:=⟨_,rfl⟩
   rw[← hx2] at m2 m3
   obtain⟨x1,hx1⟩: ∃x1,x1=x0+1:=⟨_,rfl⟩
   rw[← hx1] at m1 m2;clear hix hx1 hx2 hy
   go_wp2_with fail
   refine ZaY (stop:=19) (S:=fun w':World=>w'.cell? ⟨p,2,none⟩=some (.slice Ag i cg)∧w'.cell? ⟨sb,5,none⟩=some (.slice (some ⟨bw,ow,none⟩) s.ws.length cw)∧w'.cell? ⟨bt,ot+k,none⟩=some (.int .i64 (x0:Nat))∧w'.cell? ⟨bq,1,none⟩=some (.int .i64 (j:Nat))∧w'.cell? ⟨bw,ow+ix,none⟩=some (.int .u64 (y:Nat))) (by kernel_rfl) ⟨d2,c5,t0,h1,cw0⟩ (fun hHeld=>?_);have OD:=ZZ (show Only nob wr wr.drew from(Only.refl nob wr).drewN 1);generalize wr.drew=WD at hHeld OD ⊢;refine Zc (i:=0) (v:=?_) rfl (by kernel_rfl) (by kernel_rfl) (by kernel_rfl) (by kernel_rfl) (fun _ _ _ h=>h) (Or.inl ⟨by rfl,?_⟩) hHeld ?_;rotate_left
   · intro w hSw;(try dsimp only at hSw);go_simp;first|done|with_reducible rfl
   try simp only[Act.put,Yb,Yd,Yc,Yh,Yf,Yg]
   refine Zc (i:=1) (v:=?_) rfl (by kernel_rfl) (by kernel_rfl) (by kernel_rfl) (by kernel_rfl) (fun _ _ _ h=>h) (Or.inl ⟨by rfl,?_⟩) hHeld ?_;rotate_left
   · intro w hSw;(try dsimp only at hSw);go_simp;first|done|with_reducible rfl
   try simp only[Act.put,Yb,Yd,Yc,Yh,Yf,Yg]
   refine Zc (i:=2) (v:=?_) rfl (by kernel_rfl) (by kernel_rfl) (by kernel_rfl) (by kernel_rfl) (fun _ _ _ h=>h) (Or.inl ⟨by rfl,?_⟩) hHeld ?_;rotate_left
   · intro w hSw;(try dsimp only at hSw);go_simp;first|done|with_reducible rfl
   try simp only[Act.put,Yb,Yd,Yc,Yh,Yf,Yg]
   refine Zc (i:=3) (v:=?_) rfl (by kernel_rfl) (by kernel_rfl) (by kernel_rfl) (by kernel_rfl) (fun _ _ _ h=>h) (Or.inl ⟨by rfl,?_⟩) hHeld ?_;rotate_left
   · intro w hSw;(try dsimp only at hSw);go_simp;first|done|with_reducible rfl
   try simp only[Act.put,Yb,Yd,Yc,Yh,Yf,Yg]
   refine Zc (i:=4) (v:=?_) rfl (by kernel_rfl) (by kernel_rfl) (by kernel_rfl) (by kernel_rfl) (fun _ _ _ h=>h) (Or.inl ⟨by rfl,?_⟩) hHeld ?_;rotate_left
   · intro w hSw;(try dsimp only at hSw);go_simp;first|done|with_reducible rfl
   try simp only[Act.put,Yb,Yd,Yc,Yh,Yf,Yg]
   refine Zc (i:=5) (v:=?_) rfl (by kernel_rfl) (by kernel_rfl) (by kernel_rfl) (by kernel_rfl) (fun _ _ _ h=>h) (Or.inl ⟨by rfl,?_⟩) hHeld ?_;rotate_left
   · intro w hSw;(try dsimp only at hSw);go_simp;first|done|with_reducible rfl
   try simp only[Act.put,Yb,Yd,Yc,Yh,Yf,Yg]
   refine Zc (i:=6) (v:=?_) rfl (by kernel_rfl) (by kernel_rfl) (by kernel_rfl) (by kernel_rfl) (fun _ _ _ h=>h) (Or.inl ⟨by rfl,?_⟩) hHeld ?_;rotate_left
   · intro w hSw;(try dsimp only at hSw);go_simp;first|done|with_reducible rfl
   try simp only[Act.put,Yb,Yd,Yc,Yh,Yf,Yg]
   refine Zc (i:=7) (v:=?_) rfl (by kernel_rfl) (by kernel_rfl) (by kernel_rfl) (by kernel_rfl) (fun _ _ _ h=>h) (Or.inl ⟨by rfl,?_⟩) hHeld ?_;rotate_left
   · intro w hSw;(try dsimp only at hSw);go_simp;first|done|with_reducible rfl
   try simp only[Act.put,Yb,Yd,Yc,Yh,Yf,Yg]
   refine Zc (i:=8) (v:=?_) rfl (by kernel_rfl) (by kernel_rfl) (by kernel_rfl) (by kernel_rfl) (fun _ _ _ h=>h) (Or.inl ⟨by rfl,?_⟩) hHeld ?_;rotate_left
   · intro w hSw;(try dsimp only at hSw);go_simp;first|done|with_reducible rfl
   try simp only[Act.put,Yb,Yd,Yc,Yh,Yf,Yg]
   refine Zc (i:=9) (v:=?_) rfl (by kernel_rfl) (by kernel_rfl) (by kernel_rfl) (by kernel_rfl) (fun _ _ _ h=>h) (Or.inl ⟨by rfl,?_⟩) hHeld ?_;rotate_left
   · intro w hSw;(try dsimp only at hSw);go_simp;first|done|with_reducible rfl
   try simp only[Act.put,Yb,Yd,Yc,Yh,Yf,Yg]
   refine Zc (i:=10) (v:=?_) rfl (by kernel_rfl) (by kernel_rfl) (by kernel_rfl) (by kernel_rfl) (fun _ _ _ h=>h) (Or.inl ⟨by rfl,?_⟩) hHeld ?_;rotate_left
   · intro w hSw;(try dsimp only at hSw);go_simp;first|done|with_reducible rfl
   try simp only[Act.put,Yb,Yd,Yc,Yh,Yf,Yg]
   refine Zc (i:=11) (v:=?_) rfl (by kernel_rfl) (by kernel_rfl) (by kernel_rfl) (by kernel_rfl) (fun _ _ _ h=>h) (Or.inl ⟨by rfl,?_⟩) hHeld ?_;rotate_left
   · intro w hSw;(try dsimp only at hSw);go_simp;first|done|with_reducible rfl
   try simp only[Act.put,Yb,Yd,Yc,Yh,Yf,Yg]
   refine Zc (i:=12) (v:=?_) rfl (by kernel_rfl) (by kernel_rfl) (by kernel_rfl) (by kernel_rfl) (fun _ _ _ h=>h) (Or.inl ⟨by rfl,?_⟩) hHeld ?_;rotate_left
   · intro w hSw;(try dsimp only at hSw);go_simp;first|done|with_reducible rfl
   try simp only[Act.put,Yb,Yd,Yc,Yh,Yf,Yg]
   refine Zc (i:=13) (v:=?_) rfl (by kernel_rfl) (by kernel_rfl) (by kernel_rfl) (by kernel_rfl) (fun _ _ _ h=>h) (Or.inl ⟨by rfl,?_⟩) hHeld ?_;rotate_left
   · intro w hSw;(try dsimp only at hSw);go_simp;first|done|with_reducible rfl
   try simp only[Act.put,Yb,Yd,Yc,Yh,Yf,Yg]
   refine Zc (i:=14) (v:=?_) rfl (by kernel_rfl) (by kernel_rfl) (by kernel_rfl) (by kernel_rfl) (fun _ _ _ h=>h) (Or.inl ⟨by rfl,?_⟩) hHeld ?_;rotate_left
   · intro w hSw;(try dsimp only at hSw);go_simp;first|done|with_reducible rfl
   try simp only[Act.put,Yb,Yd,Yc,Yh,Yf,Yg]
   refine Zc (i:=15) (v:=?_) rfl (by kernel_rfl) (by kernel_rfl) (by kernel_rfl) (by kernel_rfl) (fun _ _ _ h=>h) (Or.inl ⟨by rfl,?_⟩) hHeld ?_;rotate_left
   · intro w hSw;(try dsimp only at hSw);go_simp;first|done|with_reducible rfl
   try simp only[Act.put,Yb,Yd,Yc,Yh,Yf,Yg]
   refine Zp (rs:=[16]) (by kernel_rfl) (by simp) ?_;refine(Za6.cons rfl (fun K hK=>?_) Za6.nil)
   obtain⟨X2,hX2,o2,b2⟩: ∃X,WD.alloc (.cells #[.int .u64 (y:Nat)] 48)=X∧Only nob WD X∧Blk X WD.heap.size 48 #[.int .u64 (y:Nat)]:=⟨_,rfl,(Only.refl nob WD).alloc _,Blk.new WD _ _⟩
   have HX2:=ZZ hX2;have O2:=ZZ (OD.out.trans o2);have B2:=ZZ b2;clear hX2 o2 b2;go_simp
   with_reducible rw[HX2.out]
   refine hK.out _ _ (fun _=>⟨O2.out.keeps d2,O2.out.keeps c5,O2.out.keeps t0,O2.out.keeps h1,O2.out.keeps cw0⟩) (fun hHeld2=>?_);clear hK K hHeld;have hHeld:=hHeld2 (by decide);clear hHeld2
   try simp only[Act.put,Yb,Yd,Yc,Yh,Yf,Yg]
   refine Zp (rs:=[17]) (by kernel_rfl) (by simp) ?_;refine(Za6.cons rfl (fun K hK=>?_) Za6.nil);have HFX:=ZZ (Zb HGR.out O2.out fun _ _=>id);refine ZX _ (by rfl) _ _ _ (by rfl) W5.heap.size 48 l0 _ 1 8 Tryz.underlying24 hl0 hlz0 hlz1 hlz2 (by rfl) (by decide) (.slice Ag i cg) i (u64s (RS.take i)) (by rfl) HFX.out X2.heap.size (.slice (some ⟨WD.heap.size,0,none⟩) 1 1) 1 (u64s [y]) (by rfl) (Sl.of_blk (size:=1) (n:=1) (c:=1) B2.out rfl (Yj _) (by decide)) (ZdG _) (by unfold maxLen;omega) (by omega) (by have:=HO5.out.size;have:=O2.out.size;omega) ?_;intro v6 X6 H6 o6 _;obtain⟨A6,c6,rfl, -⟩:=Zi H6.out;have BN6:=ZZ ((HBN.out.keep O2.out id).keep o6 (blk_own_ne16 (HBN.out.keep O2.out id) HFX.out (by decide)));have O6:=ZZ (Zay (HO5.out.trans O2.out) HFX.out o6 (Yj _));have HG6:=ZZ (show X6.ownsRow W5.heap.size 48 1 (.slice A6 (i+1) c6) (i+1) (u64s (RS.take (i+1))) by rw[HAT.out,show u64s (RS.take i++[y])=u64s (RS.take i)++u64s [y] by simp[u64s]];exact H6.out);have HFX2:=Zb HFR.out O2.out fun _ _=>id;have HF6:=ZZ (Zb HFX2 o6 (Zv HFX2 HFX.out (by decide)));obtain⟨q5,q0,q1, -⟩:=HCL.out X6 O6.out;obtain⟨bw2,ow2,e2,qw⟩:=HWD.out ix X6 O6.out hi
   obtain⟨rfl,rfl⟩:bw=bw2∧ow=ow2:=by simpa using e2
   clear H6 o6 e2 HFX2;refine hK.out _ _ (fun _=>⟨BN6.out.cell 2,q5,q0,q1,qw.trans (by rw[HY.out])⟩) (fun hHeld2=>?_);clear hK K hHeld;have hHeld:=hHeld2 (by decide);clear hHeld2
   try simp only[Act.put,Yb,Yd,Yc,Yh,Yf,Yg]
   refine Zc (i:=18) (v:=?_) rfl (by kernel_rfl) (by kernel_rfl) (by kernel_rfl) (by kernel_rfl) (fun _ _ _ h=>h) (Or.inl ⟨by rfl,?_⟩) hHeld ?_;rotate_left
   · intro w hSw;(try dsimp only at hSw);go_simp;first|done|with_reducible rfl
   try simp only[Act.put,Yb,Yd,Yc,Yh,Yf,Yg]
   refine Zp (rs:=[19]) (by kernel_rfl) (by simp) ?_;refine(Za6.cons rfl (fun K hK=>?_) Za6.nil);have y1:X6.cell? ⟨p,2,none⟩=some (.slice Ag i cg):=BN6.out.cell 2;have fy1:=BN6.out.free 2
   obtain⟨X7,hX7,o7,b7⟩: ∃X,X6.setCell ⟨p,2,none⟩ (.slice A6 (i+1) c6)=X∧Only (isb p) X6 X∧Blk X p 54 #[.int .i64 Kd,.slice Af j cf,.slice A6 (i+1) c6]:=⟨_,rfl,Zd _ _ _ _,by simpa using BN6.out.put 2 (.slice A6 (i+1) c6)⟩
   have HX7:=ZZ hX7;have O7:=ZZ (O6.out.andThen o7 fun i hi e=>by unfold isb at e;have:=HP.out;omega);have BN7:=ZZ b7;have HG7:=ZZ (Zb HG6.out o7 (ZF BN6.out HG6.out (by decide)));have HF7:=ZZ (Zb HF6.out o7 (ZF BN6.out HF6.out (by decide)));clear hX7 o7 b7;go_simp
   with_reducible rw[HX7.out]
   clear y1 fy1 hHeld;refine hK.out _ _ (fun h=>absurd rfl h) (fun hHeld2=>?_);clear hK K hHeld2
   try simp only[Act.put,Yb,Yd,Yc,Yh,Yf,Yg]
   refine ZbL (by kernel_rfl) ?_ _;clear c5 t0 h1 h2 d2 cw0 q5 q0 q1 qw m1 m2 m3;go_wp2
   go_roundw
   case rel=>exact⟨i+1,A6,c6,by omega,by go_num,HG7,HF7,BN7,O7⟩
   case measure=>simp[RowKit.intOf];omega
  case neg=>
  obtain rfl:i=R:=by omega
  have HGR:=ZZ (show wr.ownsRow W5.heap.size 48 1 (.slice Ag i cg) i (u64s RS) by have:=HGR.out;rwa [show RS.take i=RS by rw[← HRL.out,List.take_length]] at this);have LI7:=ZZ (LI5.out.nob HO5.out);have hZ5:=LI5.out.only.size;have HNO:=ZZ (show NdO wr Z.heap.size ⟨Kd,FS,RS⟩ (.slice Af j cf,.slice Ag i cg) from⟨by have:=ZE (base':=Z.heap.size) HFR.out (fun b e=>Yi hZ5 (Zl HFR.out e).1);rw[← HFL.out] at this ⊢;exact this,by have:=ZE (base':=Z.heap.size) HGR.out (fun b e=>Yi hZ5 (Zl HGR.out e).1);rw[← HRL.out] at this ⊢;exact this⟩);have g0:wr.cell? ⟨gb,0,none⟩=some (.slice Ax k cx):=LI7.out.box.cell 0;have n0:wr.cell? ⟨p,0,none⟩=some (.int .i64 Kd):=HBN.out.cell 0;have n1:wr.cell? ⟨p,1,none⟩=some (.slice Af j cf):=HBN.out.cell 1;have n2:wr.cell? ⟨p,2,none⟩=some (.slice Ag i cg):=HBN.out.cell 2
  obtain⟨X8,hX8,o8,b8⟩: ∃X,wr.alloc (.cells #[.int .i64 Kd,.slice Af j cf,.slice Ag i cg] 54)=X∧Only nob wr X∧Blk X wr.heap.size 54 #[.int .i64 Kd,.slice Af j cf,.slice Ag i cg]:=⟨_,rfl,(Only.refl nob wr).alloc _,Blk.new wr _ _⟩
  have HX8:=ZZ hX8;have O8:=ZZ o8;have B8:=ZZ b8;have LI8:=ZZ (LI7.out.nob o8);have g0':X8.cell? ⟨gb,0,none⟩=some (.slice Ax k cx):=LI8.out.box.cell 0;have fg0:=LI8.out.box.free 0;clear hX8 o8 b8 t0 c5 h1
  go_wp2_with (first|(with_reducible rw[HX8.out])|(with_reducible refine Zf (o:=⟨some 97,_,_,_,_,_⟩) _ rfl (.tmp 94) (.tmp 96) _ rfl Z.heap.size 54 i0 _ 3 56 Tryz.underlying31 hi0 hz0 hz1 hz2 rfl (by decide) (.slice Ax k cx) k (ndc P js) rfl LI8.out.nodes X8.heap.size (.slice (some ⟨wr.heap.size,0,none⟩) 1 1) 1 [.int .i64 Kd,.slice Af j cf,.slice Ag i cg] rfl ?c6 (ZdY _ _ _ _ _ _ _) ?c2 ?c3 ?c4 ?c5))
  case c6=>exact Sl.of_blk (size:=3) (n:=1) (c:=1) B8.out rfl (Yj _) (by decide)
  case c2=>unfold maxLen;omega
  case c3=>omega
  case c4=>have h1:=LI7.out.only.size;have h2:=O8.out.size;omega
  case c5=>
   intro v9 X9 H9 o9 _;obtain⟨A9,c9,rfl, -⟩:=Zi H9.out;have HN8:=ZZ (HNO.out.nob O8.out);have BG9:=ZZ (LI8.out.box.keep o9 (blk_own_ne16 LI8.out.box LI8.out.nodes (by decide)));have y0:X9.cell? ⟨gb,0,none⟩=some (.slice Ax k cx):=BG9.out.cell 0;have fy0:=BG9.out.free 0
   obtain⟨X7,hX7,o7,b7⟩: ∃X,X9.setCell ⟨gb,0,none⟩ (.slice A9 (k+1) c9)=X∧Only (isb gb) X9 X∧Blk X gb 34 #[.slice A9 (k+1) c9,.slice none 0 0]:=⟨_,rfl,Zd _ _ _ _,by simpa using BG9.out.put 0 (.slice A9 (k+1) c9)⟩
   have HX7:=ZZ hX7
   have LI9:=ZZ (show LI19 Z X7 gb (k+1) ((s.objs.take (k+1)).map (liN s.objs s.ws)) (js++[(.slice Af j cf,.slice Ag i cg)]) (.slice A9 (k+1) c9) from by
    rw[HTK.out,HND.out];refine LI8.out.node (by rw[HGB.out];exact Yj _) HN8.out ?_ o9 BG9.out o7 b7;rw[ZdF _ _ _ _ LI8.out.len]
    exact H9.out)
   clear hX7 o7 b7 H9 o9 g0 g0' n0 n1 n2 fg0
   go_wp2_with (with_reducible rw[HX7.out])
   clear y0 fy0
   go_roundw
   case rel=>exact⟨k+1,_,A9,c9,by omega,by go_num,LI9⟩
   case measure=>simp[RowKit.intOf];omega
 case neg=>
 obtain rfl:k=N:=by omega
 have LIE:=ZZ (show LI19 Z wr gb k (s.objs.map (liN s.objs s.ws)) js (.slice Ax k cx) by have:=HLI.out;rwa [show s.objs.take k=s.objs by rw[HN.out,List.take_length]] at this)
 obtain⟨w5,rfl⟩: ∃w5:World,w5=wr:=⟨_,rfl⟩
 have hgZ:Z.heap.size≤gb:=by rw[HGB.out];exact Yj _
 clear hlt
 go_wp2_with fail
 go_loopw [14] (fun vi wx=> ∃(i m:Nat) (Ar:Option Addr) (cr:Nat),i≤s.sl.length∧vi=.int .i64 i∧m≤i∧Hid (m=(Zen s.objs (s.sl.take i)).length)∧Hid (wx.ownsRow w5.heap.size 63 2 (.slice Ar m cr) m (spc (Zen s.objs (s.sl.take i))))∧Hid (Blk wx gb 34 #[.slice Ax k cx,.slice Ar m cr])∧Hid (Only (isb gb) w5 wx)) (fun vi _=>s.sl.length - (RowKit.intOf vi).toNat)
 case atStart=>exact⟨0,0,none,0,Yu _,rfl,Yj _,ZZ rfl,ZZ (World.ownsRow_nil _ _ _ _),ZZ LIE.out.box,ZZ (Only.refl _ _)⟩
 case round=>
 obtain⟨i,m,Ar,cr,hi,rfl,hmi,HM,HRO,HGX,HO5⟩:=hrel;have OZX:=ZZ (show Only nob Z wr from LIE.out.only.andThen HO5.out fun b hb e=>by unfold isb at e;omega);have c9:=(SZ.out.keep OZX.out).c9;by_cases hilt:i<s.sl.length
 case pos=>
  obtain⟨t,ht⟩: ∃t,s.sl[i]? =some t:=⟨_,Ya hilt⟩
  obtain⟨bl,ol,hAl,hbl,t0, -,t2⟩:=Zdk HR.out.slots ((OZ.out.trans OZX.out).below HBB.out fun _ h=>h.elim) ht;subst hAl;have HT:=ZZ (Z1 ht);have hwl:t.2.2<18446744073709551616:=(HOK.out.sl t (Yo ht)).2.2;obtain⟨ub,uh,y⟩:=t;simp only at t0 t2 hwl HT;clear ht
  cases ub with
  |false=>
   have HS:=ZZ (show Zen s.objs (s.sl.take (i+1))=Zen s.objs (s.sl.take i) by rw[HT.out];unfold Zen ZhR;simp);clear t2
   go_wp2_with fail
   clear t0 c9
   go_roundw
   case rel=>exact⟨i+1,m,Ar,cr,by omega,by go_num,by omega,ZZ (by rw[HS.out];exact HM.out),ZZ (by rw[HS.out];exact HRO.out),HGX,HO5⟩
   case measure=>simp[RowKit.intOf];omega
  |true=>
   have HS:=ZZ (show Zen s.objs (s.sl.take (i+1))=Zen s.objs (s.sl.take i)++[ZcH s.objs y] by rw[HT.out];unfold Zen ZhR;simp);have d1:wr.cell? ⟨gb,1,none⟩=some (.slice Ar m cr):=HGX.out.cell 1
   go_wp2_with fail
   clear t0;refine ZaY (stop:=13) (S:=fun w':World=>w'.cell? ⟨gb,1,none⟩=some (.slice Ar m cr)∧w'.cell? ⟨sb,9,none⟩=some (.slice (some ⟨bl,ol,none⟩) s.sl.length cl)∧w'.cell? ⟨bl,ol+i * 3+2,none⟩=some (.int .u64 (y:Nat))) (by kernel_rfl) ⟨d1,c9,t2⟩ (fun hHeld=>?_);have OD:=ZZ (show Only nob wr wr.drew from(Only.refl nob wr).drewN 1);generalize wr.drew=WD at hHeld OD ⊢;refine Zc (i:=0) (v:=?_) rfl (by kernel_rfl) (by kernel_rfl) (by kernel_rfl) (by kernel_rfl) (fun _ _ _ h=>h) (Or.inl ⟨by rfl,?_⟩) hHeld ?_;rotate_left
   · intro w hSw;(try dsimp only at hSw);go_simp;first|done|with_reducible rfl
   try simp only[Act.put,Yb,Yd,Yc,Yh,Yf,Yg]
   refine Zc (i:=1) (v:=?_) rfl (by kernel_rfl) (by kernel_rfl) (by kernel_rfl) (by kernel_rfl) (fun _ _ _ h=>h) (Or.inl ⟨by rfl,?_⟩) hHeld ?_;rotate_left
   · intro w hSw;(try dsimp only at hSw);go_simp;first|done|with_reducible rfl
   try simp only[Act.put,Yb,Yd,Yc,Yh,Yf,Yg]
   refine Zc (i:=2) (v:=?_) rfl (by kernel_rfl) (by kernel_rfl) (by kernel_rfl) (by kernel_rfl) (fun _ _ _ h=>h) (Or.inl ⟨by rfl,?_⟩) hHeld ?_;rotate_left
   · intro w hSw;(try dsimp only at hSw);go_simp;first|done|with_reducible rfl
   try simp only[Act.put,Yb,Yd,Yc,Yh,Yf,Yg]
   refine Zc (i:=3) (v:=?_) rfl (by kernel_rfl) (by kernel_rfl) (by kernel_rfl) (by kernel_rfl) (fun _ _ _ h=>h) (Or.inl ⟨by rfl,?_⟩) hHeld ?_;rotate_left
   · intro w hSw;(try dsimp only at hSw);go_simp;first|done|with_reducible rfl
   try simp only[Act.put,Yb,Yd,Yc,Yh,Yf,Yg]
   refine Zc (i:=4) (v:=?_) rfl (by kernel_rfl) (by kernel_rfl) (by kernel_rfl) (by kernel_rfl) (fun _ _ _ h=>h) (Or.inl ⟨by rfl,?_⟩) hHeld ?_;rotate_left
   · intro w hSw;(try dsimp only at hSw);go_simp;first|done|with_reducible rfl
   try simp only[Act.put,Yb,Yd,Yc,Yh,Yf,Yg]
   refine Zc (i:=5) (v:=?_) rfl (by kernel_rfl) (by kernel_rfl) (by kernel_rfl) (by kernel_rfl) (fun _ _ _ h=>h) (Or.inl ⟨by rfl,?_⟩) hHeld ?_;rotate_left
   · intro w hSw;(try dsimp only at hSw);go_simp;first|done|with_reducible rfl
   try simp only[Act.put,Yb,Yd,Yc,Yh,Yf,Yg]
   refine Zc (i:=6) (v:=?_) rfl (by kernel_rfl) (by kernel_rfl) (by kernel_rfl) (by kernel_rfl) (fun _ _ _ h=>h) (Or.inl ⟨by rfl,?_⟩) hHeld ?_;rotate_left
   · intro w hSw;(try dsimp only at hSw);go_simp;first|done|with_reducible rfl
   try simp only[Act.put,Yb,Yd,Yc,Yh,Yf,Yg]
   refine Zc (i:=7) (v:=?_) rfl (by kernel_rfl) (by kernel_rfl) (by kernel_rfl) (by kernel_rfl) (fun _ _ _ h=>h) (Or.inl ⟨by rfl,?_⟩) hHeld ?_;rotate_left
   · intro w hSw;(try dsimp only at hSw);go_simp;first|done|with_reducible rfl
   try simp only[Act.put,Yb,Yd,Yc,Yh,Yf,Yg]
   refine Zc (i:=8) (v:=?_) rfl (by kernel_rfl) (by kernel_rfl) (by kernel_rfl) (by kernel_rfl) (fun _ _ _ h=>h) (Or.inl ⟨by rfl,?_⟩) hHeld ?_;rotate_left
   · intro w hSw;(try dsimp only at hSw);go_simp;first|done|with_reducible rfl
   try simp only[Act.put,Yb,Yd,Yc,Yh,Yf,Yg]
   refine Zp (rs:=[9]) (by kernel_rfl) (by simp) ?_;refine(Za6.cons rfl (fun K hK=>?_) Za6.nil);rw[if_pos (by rfl)];go_simp;go_at_call 34;refine(HTN.out y WD (OZX.out.trans OD.out) hwl).mono ?_;rintro e X1 ⟨rfl,o⟩;have O1:=ZZ (OD.out.trans o);clear o;refine hK.out _ _ (fun _=>⟨O1.out.keeps d1,O1.out.keeps c9,O1.out.keeps t2⟩) (fun hHeld2=>?_);clear hK K hHeld;have hHeld:=hHeld2 (by decide);clear hHeld2
   try simp only[Act.put,Yb,Yd,Yc,Yh,Yf,Yg]
   refine Zp (rs:=[10]) (by kernel_rfl) (by simp) ?_;refine(Za6.cons rfl (fun K hK=>?_) Za6.nil);obtain⟨X2,hX2,HB2⟩:=ZbK X1 (ZcH s.objs y).1 (ZcH s.objs y).2;have HX2:=ZZ hX2;have O2:=ZZ (O1.out.trans HB2.out.1);clear hX2;go_simp
   with_reducible rw[HX2.out]
   refine hK.out _ _ (fun _=>⟨O2.out.keeps d1,O2.out.keeps c9,O2.out.keeps t2⟩) (fun hHeld2=>?_);clear hK K hHeld;have hHeld:=hHeld2 (by decide);clear hHeld2
   try simp only[Act.put,Yb,Yd,Yc,Yh,Yf,Yg]
   refine Zp (rs:=[11]) (by kernel_rfl) (by simp) ?_;refine(Za6.cons rfl (fun K hK=>?_) Za6.nil);have HFX:=ZZ (Zb HRO.out O2.out fun _ _=>id);have hw5:=HO5.out.size;refine ZX _ (by rfl) _ _ _ (by rfl) w5.heap.size 63 j0 _ 2 16 Tryz.underlying32 hj0 hjz0 hjz1 hjz2 (by rfl) (by decide) (.slice Ar m cr) m (spc (Zen s.objs (s.sl.take i))) (by rfl) HFX.out (X1.heap.size+1) (.slice (some ⟨X1.heap.size,0,none⟩) 1 1) 1 (spc [ZcH s.objs y]) (by rfl) (by rw[← HX2.out];exact Zic X1 _ _) (Zfw _) (by unfold maxLen;omega) (by omega) (by have:=O2.out.size;omega) ?_;intro v6 X6 H6 o6 _;obtain⟨A6,c6,rfl, -⟩:=Zi H6.out;have HG6:=ZZ ((HGX.out.keep O2.out id).keep o6 (blk_own_ne16 (HGX.out.keep O2.out id) HFX.out (by decide)));have O56:=ZZ (show Only (isb gb) w5 X6 from(HO5.out.trans (O2.out.mono fun _ _ h=>h.elim)).andThen o6 fun b hb e=>absurd (Zl HFX.out e).1 (Nat.not_le_of_lt hb));have OZ6:=ZZ (show Only nob Z X6 from LIE.out.only.andThen O56.out fun b hb e=>by unfold isb at e;omega);have HF6:=ZZ (show X6.ownsRow w5.heap.size 63 2 (.slice A6 (m+1) c6) (m+1) (spc (Zen s.objs (s.sl.take (i+1)))) by rw[HS.out,ZiB];exact H6.out);have q9:=(SZ.out.keep OZ6.out).c9;obtain⟨bl2,ol2,e2, -, -, -,q2⟩:=Zdk HR.out.slots ((OZ.out.trans OZ6.out).below HBB.out fun _ h=>h.elim) (show s.sl[i]? =some (true,uh,y) from by have:=HT.out;rw[List.take_add_one] at this;have h3:=List.append_cancel_left this;cases h4:s.sl[i]? with|none=>rw[h4] at h3;cases h3|some z=>rw[h4] at h3;simpa using h3)
   obtain⟨rfl,rfl⟩:bl=bl2∧ol=ol2:=by simpa using e2
   clear H6 o6 e2;refine hK.out _ _ (fun _=>⟨HG6.out.cell 1,q9,q2⟩) (fun hHeld2=>?_);clear hK K hHeld;have hHeld:=hHeld2 (by decide);clear hHeld2
   try simp only[Act.put,Yb,Yd,Yc,Yh,Yf,Yg]
   refine Zc (i:=12) (v:=?_) rfl (by kernel_rfl) (by kernel_rfl) (by kernel_rfl) (by kernel_rfl) (fun _ _ _ h=>h) (Or.inl ⟨by rfl,?_⟩) hHeld ?_;rotate_left
   · intro w hSw;(try dsimp only at hSw);go_simp;first|done|with_reducible rfl
   try simp only[Act.put,Yb,Yd,Yc,Yh,Yf,Yg]
   refine Zp (rs:=[13]) (by kernel_rfl) (by simp) ?_;refine(Za6.cons rfl (fun K hK=>?_) Za6.nil);have y1:X6.cell? ⟨gb,1,none⟩=some (.slice Ar m cr):=HG6.out.cell 1;have fy1:=HG6.out.free 1
   obtain⟨X7,hX7,o7,b7⟩: ∃X,X6.setCell ⟨gb,1,none⟩ (.slice A6 (m+1) c6)=X∧Only (isb gb) X6 X∧Blk X gb 34 #[.slice Ax k cx,.slice A6 (m+1) c6]:=⟨_,rfl,Zd _ _ _ _,by simpa using HG6.out.put 1 (.slice A6 (m+1) c6)⟩
   have HX7:=ZZ hX7;have O7:=ZZ (O56.out.trans o7);have BG7:=ZZ b7;have HF7:=ZZ (Zb HF6.out o7 (ZF HG6.out HF6.out (by decide)));have HM7:=ZZ (show m+1=(Zen s.objs (s.sl.take (i+1))).length by rw[HS.out,Ys, ← HM.out];rfl);clear hX7 o7 b7;go_simp
   with_reducible rw[HX7.out]
   clear y1 fy1 hHeld;refine hK.out _ _ (fun h=>absurd rfl h) (fun hHeld2=>?_);clear hK K hHeld2
   try simp only[Act.put,Yb,Yd,Yc,Yh,Yf,Yg]
   refine ZbL (by kernel_rfl) ?_ _;clear c9 d1 t2 q9 q2;go_wp2
   go_roundw
   case rel=>exact⟨i+1,m+1,A6,c6,by omega,by go_num,by omega,HM7,HF7,BG7,O7⟩
   case measure=>simp[RowKit.intOf];omega
 case neg=>
 obtain rfl:i=s.sl.length:=by omega
 have HRF:=ZZ (show wr.ownsRow w5.heap.size 63 2 (.slice Ar m cr) (Zen s.objs s.sl).length (spc (Zen s.objs s.sl)) by have h1:=HRO.out;have h2:=HM.out;rw[List.take_length] at h1 h2;rwa [← h2]);have RX:=ZZ (RZ.out.keep OZX.out id);have SX:=ZZ ((S1.out.below (OZX.out.below (Yj _) fun _ h=>h.elim)).more OZX.out.size);obtain⟨U,hU,oU,U1⟩:=ZaS RX.out (.slice Ax k cx) (.slice Ar m cr);have HU:=ZZ hU;have OU:=ZZ ((OZ.out.trans OZX.out).andThen oU fun i hi e=>by unfold isb at e;have:=HSB.out;omega);have g0:wr.cell? ⟨gb,0,none⟩=some (.slice Ax k cx):=HGX.out.cell 0;have g1:wr.cell? ⟨gb,1,none⟩=some (.slice Ar m cr):=HGX.out.cell 1;have b0:wr.cell? ⟨sb+1,0,none⟩=some (.slice none 0 0):=RX.out.cell 0;have b1:wr.cell? ⟨sb+1,1,none⟩=some (.slice none 0 0):=RX.out.cell 1;have fb0:=RX.out.free 0;have fb1:=RX.out.free 1;have HRD:=ZZ (LIE.out.done HO5.out HRF.out oU hrZ);have HSU:=ZZ (SX.out.off18 RX.out oU fun hn=>by cases hc:s.objs with|nil=>rw[hc] at hn;simp at hn|cons x l=>exact⟨_,_,rfl⟩);clear hU oU;go_wp2;rw[HU.out];have r0:U.cell? ⟨sb+1,0,none⟩=some (.slice Ax k cx):=U1.cell 0;have r1:U.cell? ⟨sb+1,1,none⟩=some (.slice Ar m cr):=U1.cell 1;refine bodyPost_ret (v:=.tuple #[.agg #[.slice Ax k cx,.slice Ar m cr],.slice A1 k k1,.int .i64 0]) (by simp[results,Tryz.results9,go_sem,r0,r1]) rfl ?_;exact⟨_,_,js,_,rfl,by rw[HGY.out];exact HRD.out,by have h9:=HSU.out;rw[HMO.out];rw[← HN.out] at h9 ⊢;exact h9,OU.out⟩
end Go.Proofs.YteieocddfnlmdaaGreatDoor
