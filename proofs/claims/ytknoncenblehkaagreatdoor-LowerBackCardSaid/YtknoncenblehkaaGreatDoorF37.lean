/- Package lift: a word's value, the same in a graph, a row of Package lift: an object as a node. -/
import Derived.Test.YtknoncenblehkaaGreatDoorF36
set_option maxRecDepth 100000
set_option maxHeartbeats 32000000
set_option linter.unusedSimpArgs false
set_option linter.unusedVariables false
namespace Go.Proofs.YtknoncenblehkaaGreatDoor
open Go.RowKit Go.Lib
theorem Zsl (x:Nat) (hx:x<18446744073709551616) (w:World):
 Calls Tryz.prog 39 #[.int .u64 (x:Nat)] w fun e w'=>e=.returned (.agg #[.int .i64 (ZtA x).1,.int .i64 (ZtA x).2])∧Only nob w w':=by
 obtain⟨W,hW,HBW⟩:=Zem w;have HWE:=ZZ hW;have HD:=ZZ (ZiR (n:=(x:Int)) ⟨by omega,by omega⟩ W)
 obtain⟨K,hK⟩: ∃K:Int,K=dK x:=⟨_,rfl⟩
 obtain⟨X,hX⟩: ∃X:Int,X=dX x:=⟨_,rfl⟩
 obtain⟨E,hE⟩: ∃E:Int,E=dE x:=⟨_,rfl⟩
 have HQ:=ZZ (show ZtA x=(K,X) by rw[hK,hX];rfl);rw[← hK, ← hX, ← hE] at HD
 obtain⟨q,hq⟩: ∃q,q=ZtA x:=⟨_,rfl⟩
 rw[← hq] at HQ ⊢;clear hW hK hX hE hq
 go_enter Tryz.func39,Tryz.ntmps39
 go_upto_region 1 with fail
 rw[HWE.out]
 go_wp2_with fail
 go_at_call 67;refine HD.out.mono ?_;rintro e w2 ⟨rfl,o2⟩;obtain⟨U,hU,HBU⟩:=Zbd w2 K X;have HUE:=ZZ hU;have OU:=ZZ (HBW.out.1.trans (o2.trans HBU.out.1));have BR:=ZZ (HBW.out.2.keep (o2.trans HBU.out.1) id);have d0:U.cell? ⟨w2.heap.size,0,none⟩=some (.int .i64 K):=HBU.out.2.cell 0;have d1:U.cell? ⟨w2.heap.size,1,none⟩=some (.int .i64 X):=HBU.out.2.cell 1;clear hU o2
 go_upto_region 2 with fail
 rw[HUE.out];have b0:U.cell? ⟨w.heap.size,0,none⟩=some (.int .i64 0):=BR.out.cell 0;have b1:U.cell? ⟨w.heap.size,1,none⟩=some (.int .i64 0):=BR.out.cell 1;have fb0:=BR.out.free 0;have fb1:=BR.out.free 1;obtain⟨W4,hW4,o4,r0,r1⟩:=Zdi OU.out (Yj _) BR.out K X;have HW4:=ZZ hW4;have O4:=ZZ o4;clear hW4 o4;go_wp2;rw[HW4.out];refine bodyPost_ret (v:=.agg #[.int .i64 K,.int .i64 X]) (by simp[results,Tryz.results39,go_sem,r0,r1]) rfl ⟨by rw[HQ.out],O4.out⟩
theorem ZtV (all:List Int) (x:Nat) (nb mp n:Nat) (hx:x<18446744073709551616) (hl:leads all x=true) (w:World) (hb:Blk w nb 85 #[.map (some mp)]) (hm:Zfx w mp n all):
 Calls Tryz.prog 38 #[.int .u64 (x:Nat),.pointer (some ⟨nb,0,none⟩)] w fun e w'=>e=.returned (.agg #[.int .i64 (valL all x).1,.int .i64 (valL all x).2])∧Only nob w w':=by
 obtain⟨W,hW,HBW⟩:=Zem w;have HWE:=ZZ hW;have HD:=ZZ (Zsl x hx W);have HXI:=ZZ (Zri x hx)
 have HQ:=ZZ (show dK x=2→dX x∈all∧valL all x=(2,plc all (dX x)) from fun e=>by
  have h1:dX x∈all:=by
   unfold leads at hl;rw[Bool.and_eq_true,Bool.or_eq_true] at hl;rcases hl.2 with h|h
   · rw[Ym e] at h;cases h
   · exact ZhK.1 h
  exact⟨h1,if_pos ⟨e,h1⟩⟩)
 have HN:=ZZ (show dK x≠2→valL all x=(dK x,dX x) from fun e=>if_neg fun h=>e h.1);have HB:=ZZ hb;have HM:=ZZ hm;unfold ZtA at HD;simp only at HD
 obtain⟨K,hK⟩: ∃K:Int,K=dK x:=⟨_,rfl⟩
 obtain⟨X,hX⟩: ∃X:Int,X=dX x:=⟨_,rfl⟩
 rw[← hK, ← hX] at HQ HN;rw[← hK, ← hX] at HD;rw[← hX] at HXI
 obtain⟨q,hq⟩: ∃q,q=valL all x:=⟨_,rfl⟩
 rw[← hq] at HQ HN ⊢;clear hW hK hX hq hl hb hm
 go_enter Tryz.func38,Tryz.ntmps38
 go_upto_region 1 with fail
 rw[HWE.out]
 go_wp2_with fail
 go_at_call 39;refine HD.out.mono ?_;rintro e w2 ⟨rfl,o2⟩;obtain⟨U,hU,HBU⟩:=Zbd w2 K X;have HUE:=ZZ hU;have OU:=ZZ (HBW.out.1.trans (o2.trans HBU.out.1));have BR:=ZZ (HBW.out.2.keep (o2.trans HBU.out.1) id);have hne:w.heap.size<w2.heap.size:=Yw HBW.out.2.lt o2.size
 obtain⟨p,hp⟩: ∃p,p=w2.heap.size:=⟨_,rfl⟩
 have HP:=ZZ hp;have BV:=ZZ HBU.out.2;rw[← hp] at BV hne;clear hU o2 hp
 go_upto_region 2 with fail
 rw[HUE.out, ← HP.out];have d0:U.cell? ⟨p,0,none⟩=some (.int .i64 K):=BV.out.cell 0;have d1:U.cell? ⟨p,1,none⟩=some (.int .i64 X):=BV.out.cell 1;by_cases hk2:K=2
 case neg=>
  have hbq:(K==2)=false:=by simpa using hk2
  have HF:=ZZ (HN.out hk2);have b0:U.cell? ⟨w.heap.size,0,none⟩=some (.int .i64 0):=BR.out.cell 0;have b1:U.cell? ⟨w.heap.size,1,none⟩=some (.int .i64 0):=BR.out.cell 1;have fb0:=BR.out.free 0;have fb1:=BR.out.free 1;obtain⟨W4,hW4,o4,r0,r1⟩:=Zdi OU.out (Yj _) BR.out K X;have HW4:=ZZ hW4;have O4:=ZZ o4;clear hW4 o4 hk2;go_wp2;rw[HW4.out];refine bodyPost_ret (v:=.agg #[.int .i64 K,.int .i64 X]) (by simp[results,Tryz.results38,go_sem,r0,r1]) rfl ⟨by rw[HF.out],O4.out⟩
 case pos=>
 obtain⟨hin,hval⟩:=HQ.out hk2;have HF:=ZZ hval;subst hk2;have m0:U.cell? ⟨nb,0,none⟩=some (.map (some mp)):=(HB.out.keep OU.out id).cell 0;have hlk:=(HM.out.keep OU.out id).at_ X HXI.out hin;have fd1:=BV.out.free 1
 obtain⟨V,hV,oV,bV⟩: ∃V,U.setCell ⟨p,1,none⟩ (.int .i64 (plc all X))=V∧Only (isb p) U V∧Blk V p 59 #[.int .i64 2,.int .i64 (plc all X)]:=⟨_,rfl,Zc _ _ _ _,by simpa using BV.out.put 1 (.int .i64 (plc all X))⟩
 have HV:=ZZ hV;have OV:=ZZ (OU.out.andThen oV fun i hi e=>by unfold isb at e;omega);have BR2:=ZZ (BR.out.keep oV fun e=>by unfold isb at e;omega);have BV2:=ZZ bV;clear hV oV bV hval hin
 go_upto_region 4 with fail
 rw[HV.out];clear d0 d1 fd1 m0 hlk;have d0:V.cell? ⟨p,0,none⟩=some (.int .i64 2):=BV2.out.cell 0;have d1:V.cell? ⟨p,1,none⟩=some (.int .i64 (plc all X)):=BV2.out.cell 1;have b0:V.cell? ⟨w.heap.size,0,none⟩=some (.int .i64 0):=BR2.out.cell 0;have b1:V.cell? ⟨w.heap.size,1,none⟩=some (.int .i64 0):=BR2.out.cell 1;have fb0:=BR2.out.free 0;have fb1:=BR2.out.free 1;obtain⟨W4,hW4,o4,r0,r1⟩:=Zdi OV.out (Yj _) BR2.out 2 (plc all X);have HW4:=ZZ hW4;have O4:=ZZ o4;clear hW4 o4;go_wp2;rw[HW4.out];refine bodyPost_ret (v:=.agg #[.int .i64 2,.int .i64 (plc all X)]) (by simp[results,Tryz.results38,go_sem,r0,r1]) rfl ⟨by rw[HF.out],O4.out⟩
theorem ZfS {w:World} {nb mp n:Nat} {all:List Int} (hb:Blk w nb 85 #[.map (some mp)]) (hm:Zfx w mp n all):ZkY 38 #[.pointer (some ⟨nb,0,none⟩)] (fun x=>x<18446744073709551616∧leads all x=true) (valL all) w:=
 ⟨enters_of Tryz.func38 (by kernel_rfl) rfl,fun x hx W o=>ZtV all x nb mp n hx.1 hx.2 W (hb.keep o id) (hm.keep o id)⟩
theorem Zjy (v:Value) (l:List Nat) (g:FuncId) (lb:Array Value) (P:Nat→Prop) (f:Nat→Sp) (B:Nat) (w:World) (hp:ZkY g lb P f w) (h:Sl w B 1 v l.length (u64s l)) (hB:B≤w.heap.size) (hl:l.length≤1000000) (hP: ∀x∈l,P x):
 Calls Tryz.prog 40 #[v,.func (.func g) #[] lb] w fun e w'=> ∃v',e=.returned v'∧w'.ownsRow w.heap.size 59 2 v' (l.map f).length (spc (l.map f))∧Only nob w w':=by
 have HA:=ZZ h;have HT:=ZZ hp.2;have HPP:=ZZ hP;have eg:=hp.1;obtain⟨A,ca,rfl,hac,ham, -⟩:=h;unfold maxLen at ham;obtain⟨W,hmk,oW,RW⟩:=Zi6 l.length hl w;have OW:=ZZ oW;have HR0:=ZZ RW
 obtain⟨L,hL⟩: ∃L,L=l.map f:=⟨_,rfl⟩
 have HL:=ZZ hL;have HLL:=ZZ (show L.length=l.length by rw[hL,List.length_map]);rw[← hL]
 obtain⟨b,hb⟩: ∃b,b=w.heap.size:=⟨_,rfl⟩
 have HBB:=ZZ hb;rw[← hb] at HR0 hmk ⊢;clear hp hP oW RW hL hb
 go_enter Tryz.func40,Tryz.ntmps40
 go_upto_region 2 with fail
 clear hmk
 go_wp2_with fail
 go_loopw [6,7,13] (fun _ _ vi wr=> ∃k:Nat,k≤l.length∧vi=.int .i64 k∧Hid (wr.ownsRow b 59 2 (.slice (some ⟨b,0,none⟩) l.length l.length) l.length (spc (ZcX L k l.length)))∧Hid (Only nob w wr)) (fun _ _ vi _=>l.length - (RowKit.intOf vi).toNat)
 case atStart=>exact⟨0,Yu _,rfl,HR0,OW⟩
 case round=>
  obtain⟨k,hk,rfl,HR,HO⟩:=hrel;by_cases hlt:k<l.length
  case pos=>
   obtain⟨x,hx⟩: ∃x,l[k]? =some x:=⟨_,Ya hlt⟩
   obtain⟨bw,ow,rfl,hbw,c0⟩:=Zdm HA.out (HO.out.below hB fun _ h=>h.elim) hx;have HX:=ZZ hx;have HPX:=ZZ (HPP.out x (Yo hx));have HLX:=ZZ (show L[k]? =some (f x) by rw[HL.out,List.getElem?_map,hx];rfl)
   obtain⟨y,hy⟩: ∃y,y=f x:=⟨_,rfl⟩
   have HTX:=ZZ (HT.out x HPX.out);rw[← hy] at HLX HTX;clear hx hy
   go_wp2_with fail
   refine(HTX.out wr HO.out).mono ?_;rintro e w1 ⟨rfl,o⟩;have O1:=ZZ (HO.out.trans o);have HR1:=ZZ (Za HR.out o fun _ _=>id);obtain⟨cs,hblk⟩:=ZaW HR1.out (k:=b) rfl;have f0:=hblk.free (k * 2);have f1:=hblk.free (k * 2+1)
   obtain⟨z0,hz0⟩: ∃z,(spc (ZcX L k l.length))[k * 2]? =some z:=⟨_,Ya (by have:=HR1.out.1;omega)⟩
   obtain⟨z1,hz1⟩: ∃z,(spc (ZcX L k l.length))[k * 2+1]? =some z:=⟨_,Ya (by have:=HR1.out.1;omega)⟩
   have s0:w1.cell? ⟨b,k * 2,none⟩=some z0:=(HR1.out.cellAt (k * 2) (by omega)).trans hz0;have s1:w1.cell? ⟨b,k * 2+1,none⟩=some z1:=(HR1.out.cellAt (k * 2+1) (by omega)).trans hz1
   obtain⟨W1,hW1,HSET,ON⟩: ∃W1,((w1.setCell ⟨b,k * 2,none⟩ (.int .i64 y.1)).setCell ⟨b,k * 2+1,none⟩ (.int .i64 y.2))=W1∧Hid (W1.ownsRow b 59 2 (.slice (some ⟨b,0,none⟩) l.length l.length) l.length (spc (ZcX L (k+1) l.length)))∧Hid (Only nob w W1):=by
    refine⟨_,rfl,ZZ ?_,ZZ ?_⟩
    · have h1:=Zab HR1.out (k * 2) (by omega) (.int .i64 y.1)
      have h2:=Zab h1 (k * 2+1) (by omega) (.int .i64 y.2)
      rwa [ZpO HLX.out HLL.out] at h2
    · exact(O1.out.setCell (p:=⟨b,k * 2,none⟩) (fun h=>absurd h (by rw[HBB.out];exact Nat.lt_irrefl _)) _).setCell (p:=⟨b,k * 2+1,none⟩) (fun h=>absurd h (by rw[HBB.out];exact Nat.lt_irrefl _)) _
   have HW1:=ZZ hW1;clear hblk hz0 hz1 o hW1 c0
   go_upto_region 6 with fail
   rw[HW1.out];clear s0 s1 f0 f1;go_wp2
   go_roundw
   case rel=>exact⟨k+1,by omega,by go_num,HSET,ON⟩
   case measure=>simp[RowKit.intOf];omega
  case neg=>
   obtain rfl:k=l.length:=by omega
   have HE:=ZZ (show wr.ownsRow b 59 2 (.slice (some ⟨b,0,none⟩) l.length l.length) L.length (spc L) by have:=HR.out;rw[Zo3 HLL.out] at this;rw[HLL.out];exact this);go_wp2;go_ret;exact⟨_,rfl,HE.out,HO.out⟩
def swL (l:List Slt):List Nat:=(Zhx l).map fun t=>t.2.2
theorem ZsS {l:List Slt} {i:Nat} {t:Slt} (ht:l[i]? =some t):swL (l.take (i+1))=swL (l.take i)++(if t.1=true then[t.2.2] else[]):=by
 rw[Zbs ht];unfold swL Zhx;obtain⟨b,x,y⟩:=t
 cases b <;> simp
theorem Zsh (s:St) (vw vt vf vs:Value) (B:Nat) (w:World) (h:Rd w B s vw vt vf vs) (hB:B≤w.heap.size) (hok:StOk s):
 Calls Tryz.prog 41 #[.agg #[.int .i64 s.cf.semi,.int .i64 s.cf.large,.int .i64 s.cf.slots,.int .i64 s.cf.limit,.bool s.sec,vw,.int .i64 s.top,vt,vf,vs]] w fun e w'=> ∃v,e=.returned v∧Sl w' w'.heap.size 1 v (swL s.sl).length (u64s (swL s.sl))∧Only nob w w':=by
 obtain⟨l0,hl0,hlz0,hlz1,hlz2⟩:=info_parts Zbc;obtain⟨Al,cl,rfl,hal,hcl⟩:=h.slots.form;unfold maxLen at hcl;have hfew:s.sl.length≤2000:=hok.few.2.2.2;obtain⟨V,hV,HB⟩:=ZW w s vw vt vf (.slice Al s.sl.length cl);have HVE:=ZZ hV
 obtain⟨sb,hsb⟩: ∃p,p=w.heap.size:=⟨_,rfl⟩
 have SB:=ZZ HB.out.2.2;rw[← hsb] at SB;have HSB:=ZZ hsb;have OV:=ZZ HB.out.1;have HR:=ZZ h;have HBB:=ZZ hB;have c9:=SB.out.c9;clear hV h hB hok hsb
 go_enter Tryz.func41,Tryz.ntmps41
 go_upto_region 1 with fail
 rw[HVE.out, ← HSB.out]
 go_wp2_with fail
 clear c9
 go_loopw [3,5,9] (fun out _ vi wr=> ∃(i m:Nat) (Ar:Option Addr) (cr:Nat),i≤s.sl.length∧vi=.int .i64 i∧m≤i∧out=.slice Ar m cr∧Hid (m=(swL (s.sl.take i)).length)∧Hid (wr.ownsRow V.heap.size 57 1 (.slice Ar m cr) m (u64s (swL (s.sl.take i))))∧Hid (Only nob V wr)) (fun _ _ vi _=>s.sl.length - (RowKit.intOf vi).toNat)
 case atStart=>exact⟨0,0,none,0,Yu _,rfl,Yj _,rfl,ZZ rfl,ZZ (World.ownsRow_nil _ _ _ _),ZZ (Only.refl _ _)⟩
 case round=>
 obtain⟨i,m,Ar,cr,hi,rfl,hmi,rfl,HM,HRO,HO⟩:=hrel;by_cases hilt:i<s.sl.length
 case pos=>
  obtain⟨t,ht⟩: ∃t,s.sl[i]? =some t:=⟨_,Ya hilt⟩
  obtain⟨bl,ol,hAl,hbl,t0,t1,t2⟩:=Zdh HR.out.slots ((OV.out.trans HO.out).below HBB.out fun _ h=>h.elim) ht;subst hAl;have HT:=ZZ (ZsS ht);obtain⟨X,hX,HBX⟩:=Zc3 t wr;have HX:=ZZ hX
  obtain⟨p,hp⟩: ∃p,p=wr.heap.size:=⟨_,rfl⟩
  have HP:=ZZ hp;obtain⟨oX,bX,d0,d1,d2⟩:=HBX.out;rw[← hp] at d0 d1 d2;have OX:=ZZ (HO.out.trans oX);have HRX:=ZZ (Za HRO.out oX fun _ _=>id);obtain⟨ub,uh,y⟩:=t;simp only at t0 t1 t2 d0 d1 d2 HT HX;clear ht hX hp oX bX
  go_upto_region 5 with fail
  rw[HX.out, ← HP.out];clear t0 t1 t2 d1
  cases ub with
  |false=>
   have HS:=ZZ (show swL (s.sl.take (i+1))=swL (s.sl.take i) by have:=HT.out;simpa using this)
   go_wp2_with fail
   clear d0 d2
   go_roundw
   case rel=>exact⟨i+1,m,Ar,cr,by omega,by go_num,by omega,rfl,ZZ (by rw[HS.out];exact HM.out),ZZ (by rw[HS.out];exact HRX.out),OX⟩
   case measure=>simp[RowKit.intOf];omega
  |true=>
   have HS:=ZZ (show swL (s.sl.take (i+1))=swL (s.sl.take i)++[y] by have:=HT.out;simpa using this)
   go_upto_region 6 with fail
   clear d0
   obtain⟨X3,hX3,o3,b3⟩: ∃X3,X.alloc (.cells #[.int .u64 (y:Nat)] 57)=X3∧Only nob X X3∧Blk X3 X.heap.size 57 #[.int .u64 (y:Nat)]:=⟨_,rfl,(Only.refl nob X).alloc _,Blk.new _ _ _⟩
   have HX3:=ZZ hX3;have B3:=ZZ b3;have O3:=ZZ (OX.out.trans o3);have HR3:=ZZ (Za HRX.out o3 fun _ _=>id);clear hX3 o3 b3
   go_wp2_with (first|(with_reducible rw[HX3.out])|(with_reducible refine Zg (o:=⟨some 19,_,_,_,_,_⟩) _ rfl (.tmp 15) (.tmp 18) _ rfl V.heap.size 57 l0 _ 1 8 Tryz.underlying30 hl0 hlz0 hlz1 hlz2 rfl (by decide) (.slice Ar m cr) m (u64s (swL (s.sl.take i))) rfl HR3.out X3.heap.size (.slice (some ⟨X.heap.size,0,none⟩) 1 1) 1 (u64s [y]) rfl ?c6 (Zc7 _) ?c2 ?c3 ?c4 ?c5))
   case c6=>exact Sl.of_blk (size:=1) (n:=1) (c:=1) B3.out rfl (Yj _) (by decide)
   case c2=>unfold maxLen;omega
   case c3=>omega
   case c4=>have:=O3.out.size;omega
   case c5=>
    intro v6 X6 H6 o6 _;obtain⟨A6,c6,rfl, -⟩:=Zi H6.out;have O6:=ZZ (Zdn O3.out HR3.out o6 (Yj _));have HF6:=ZZ (show X6.ownsRow V.heap.size 57 1 (.slice A6 (m+1) c6) (m+1) (u64s (swL (s.sl.take (i+1)))) by rw[HS.out,show ∀a c:List Nat,u64s (a++c)=u64s a++u64s c from fun a c=>by simp[u64s]];exact H6.out);have HM7:=ZZ (show m+1=(swL (s.sl.take (i+1))).length by rw[HS.out,Ys, ← HM.out];rfl);clear H6 o6 d2;go_wp2
    go_roundw
    case rel=>exact⟨i+1,m+1,A6,c6,by omega,by go_num,by omega,rfl,HM7,HF6,O6⟩
    case measure=>simp[RowKit.intOf];omega
 case neg=>
  obtain rfl:i=s.sl.length:=by omega
  have HRF:=ZZ (show wr.ownsRow V.heap.size 57 1 (.slice Ar m cr) (swL s.sl).length (u64s (swL s.sl)) by have h1:=HRO.out;have h2:=HM.out;rw[List.take_length] at h1 h2;rw[← h2];exact h1);have O9:=ZZ (OV.out.trans HO.out);go_wp2;go_ret;exact⟨_,rfl,Sl.of_own HRF.out HRF.out.1,O9.out⟩
theorem ZiQ (l:List Nat) (a n:Nat) (h:a+n≤l.length):part l a n=(List.range n).map fun k=>wd l (a+k):=by
 unfold part;apply List.ext_getElem?;intro j;rw[List.getElem?_take,List.getElem?_map];by_cases hj:j<n
 · rw[if_pos hj,List.getElem?_drop,List.getElem?_range hj,ZsG (by omega)];rfl
 · rw[if_neg hj,List.getElem?_eq_none (by simp;omega)];rfl
theorem ZhT {A:Option Addr} {c:Nat} {l:List Nat} {B:Nat} {w:World} (h:Sl w B 1 (.slice A l.length c) l.length (u64s l)) (a n:Nat) (hn:a+n≤l.length):Sl w B 1 (Zbb A a (a+n) c 1) (part l a n).length (u64s (part l a n)):=by
 have h1:=h.cut (l:=a) (k:=a+n) (by omega) hn
 have h4:((u64s l).drop (a * 1)).take ((a+n - a) * 1)=u64s (part l a n):=by
  unfold u64s part;rw[List.map_take,List.map_drop];congr 1 <;> simp
 rw[h4] at h1
 have h5:a+n - a=(part l a n).length:=by rw[Zay _ _ _ (by omega)];omega
 rwa [h5] at h1
theorem Zid (A:Option Addr) (n c a b:Nat) (hl:a≤b) (hc:b≤c) (w:World):(Instr.sliceAt 30 (.slice A n c) (some (.int .i64 (a:Int))) (some (.int .i64 (b:Int))) none).run Tryz.prog w=.ok (Zbb A a b c 1) w:=by
 obtain⟨i,hi, -,h1, -⟩:=info_parts Zbc
 have:=Zb9 Tryz.underlying30 hi A n c a b hl hc w
 rw[h1] at this;exact this
theorem ZuF {w W:World} {b:Nat} {t:TypeId} (o:Only nob w W) (hb:w.heap.size≤b) {z0 z1 z2:Value} (B:Blk W b t #[z0,z1,z2]) (x0 x1 x2:Value):
 ∃W4,(((W.setCell ⟨b,0,none⟩ x0).setCell ⟨b,1,none⟩ x1).setCell ⟨b,2,none⟩ x2)=W4∧Only nob w W4∧Only (isb b) W W4∧Blk W4 b t #[x0,x1,x2]:=by
 refine⟨_,rfl,Zf (Zf (Zf o hb _) hb _) hb _,((Zc _ _ _ _).trans (Zc _ _ _ _)).trans (Zc _ _ _ _),?_⟩;simpa using((B.put 0 x0).put 1 x1).put 2 x2
theorem Zt0 (s:St) (p:Nat) (g:FuncId) (lb:Array Value) (vw vt vf vs:Value) (B:Nat) (w:World) (h:Rd w B s vw vt vf vs) (hB:B≤w.heap.size) (hok:StOk s) (hpar:Par w) (hmay:May15 s) (hp:(p:Int)∈s.objs)
 (ht:ZkY g lb (fun x=>x<18446744073709551616∧leads s.objs x=true) (valL s.objs) w):
 Calls Tryz.prog 42 #[.agg #[.int .i64 s.cf.semi,.int .i64 s.cf.large,.int .i64 s.cf.slots,.int .i64 s.cf.limit,.bool s.sec,vw,.int .i64 s.top,vt,vf,vs],.int .i64 (p:Nat),.func (.func g) #[] lb] w fun e w'=>
  ∃v1 v2,e=.returned (.agg #[.int .i64 (liN s.objs s.ws p).kd,v1,v2])∧NdO w' w.heap.size (liN s.objs s.ws p) (v1,v2)∧Only nob w w':=by
 obtain⟨Aw,cw,rfl,haw,hcw⟩:=h.words.form;unfold maxLen at hcw;obtain⟨W0,hW0,HB0⟩:=ZW w s (.slice Aw s.ws.length cw) vt vf vs;have HW0:=ZZ hW0;obtain⟨W,hW,HBW⟩:=Zax W0 0 (.slice none 0 0) (.slice none 0 0);have HW:=ZZ hW
 obtain⟨sb,hsb⟩: ∃q,q=w.heap.size:=⟨_,rfl⟩
 have hr:W0.heap.size=sb+1:=by rw[← hW0,hsb];simp
 have HSB:=ZZ hsb;have OW:=ZZ (HB0.out.1.trans HBW.out.1);have SB:=ZZ (HB0.out.2.2.keep HBW.out.1);rw[← hsb] at SB;have BN:=ZZ HBW.out.2.1;rw[hr] at BN;have hsz1:sb+1<W.heap.size:=BN.out.lt;obtain⟨hb1,hb2,hb3,hb4,hb5,hb6, -⟩:=Zb3 (hmay.head hp).1
 obtain⟨F,hF⟩: ∃F:Nat,ohF s.ws p=(F:Int):=⟨(ohF s.ws p).toNat,by omega⟩
 obtain⟨R,hRr⟩: ∃R:Nat,ohR s.ws p=(R:Int):=⟨(ohR s.ws p).toNat,by omega⟩
 rw[hF,hRr] at hb4;rw[hF] at hb5;rw[hRr] at hb6
 obtain⟨x1,hx1⟩: ∃x,x=p+1:=⟨_,rfl⟩
 obtain⟨x2,hx2⟩: ∃x,x=x1+F:=⟨_,rfl⟩
 obtain⟨x3,hx3⟩: ∃x,x=x2+R:=⟨_,rfl⟩
 have hl3:x3≤s.ws.length:=by omega
 have hlw:s.ws.length≤98304:=hok.few.1
 have m1:IntKind.i64.wrap ((p:Int)+1)=(x1:Int):=by rw[IntKind.wrap_i64];omega
 have m2:IntKind.i64.wrap ((x1:Int)+(F:Int))=(x2:Int):=by rw[IntKind.wrap_i64];omega
 have m3:IntKind.i64.wrap ((x2:Int)+(R:Int))=(x3:Int):=by rw[IntKind.wrap_i64];omega
 obtain⟨FS,hFS⟩: ∃FS,FS=Zuu s.objs s.ws p:=⟨_,rfl⟩
 obtain⟨RS,hRS⟩: ∃RS,RS=Zut s.ws p:=⟨_,rfl⟩
 have hFP:(part s.ws x1 F).map (valL s.objs)=FS:=by
  rw[ZiQ _ _ _ (by omega),hFS,List.map_map];unfold Zuu;rw[hF];refine List.map_congr_left fun k hk=>?_;show valL s.objs (wd s.ws (x1+k))=_;rw[show((p:Int)+1+(k:Nat)).toNat=x1+k by omega]
 have hRP:part s.ws x2 R=RS:=by
  rw[ZiQ _ _ _ (by omega),hRS];unfold Zut;rw[hRr,hF];refine List.map_congr_left fun k hk=>?_;rw[show((p:Int)+1+(F:Int)+(k:Nat)).toNat=x2+k by omega]
 have hPP: ∀x∈part s.ws x1 F,x<18446744073709551616∧leads s.objs x=true:=fun x hx=>by
  rw[ZiQ _ _ _ (by omega)] at hx;obtain⟨k,hk,rfl⟩:=List.mem_map.1 hx;have hk':=List.mem_range.1 hk;refine⟨ZuX hok.ws _,?_⟩
  have:=Zh9 hmay hp (k:=k) (by omega)
  rwa [show((p:Int)+1+(k:Nat)).toNat=x1+k by omega] at this
 have HTU:=ZZ (show ∀W',Only nob w W'→Calls Tryz.prog 40 #[Zbb Aw x1 x2 cw 1,.func (.func g) #[] lb] W' fun e w'=> ∃v',e=.returned v'∧w'.ownsRow W'.heap.size 59 2 v' FS.length (spc FS)∧Only nob W' w' from fun W' o=>by
  have h1:=ZhT (h.only o hB).words x1 F (by omega);rw[← hx2] at h1;have h2:=Zjy (Zbb Aw x1 x2 cw 1) (part s.ws x1 F) g lb _ _ B W' (ht.on o) h1 (Yi hB o.size) (by rw[Zay _ _ _ (by omega)];omega) hPP
  rwa [hFP] at h2)
 have HCL:=ZZ (show ∀W',Only nob w W'→Calls Tryz.prog 69 #[Zbb Aw x2 x3 cw 1] W' fun e w'=> ∃v',e=.returned v'∧w'.ownsRow W'.heap.size 57 1 v' RS.length (u64s RS)∧Only nob W' w' from fun W' o=>by
  have h1:=ZhT (h.only o hB).words x2 R (by omega);rw[← hx3,hRP] at h1
  exact ZiG (Zbb Aw x2 x3 cw 1) RS B W' h1 (Yi hB o.size) (by rw[← hRP,Zay _ _ _ (by omega)];omega))
 have HQ1:=ZZ (fun (w':World)=>Zid Aw s.ws.length cw x1 x2 (by omega) (by omega) w');have HQ2:=ZZ (fun (w':World)=>Zid Aw s.ws.length cw x2 x3 (by omega) (by omega) w');have HH:=ZZ (Zto s (p:Int) _ _ _ _ B W (h.only OW.out hB) (Yi hB OW.out.size) hok (hpar.old OW.out))
 obtain⟨Kd,hK⟩: ∃K,K=ohK s.ws p:=⟨_,rfl⟩
 obtain⟨Mk,hMk⟩: ∃M,M=ohM s.ws p:=⟨_,rfl⟩
 obtain⟨Cu,hCu⟩: ∃M,M=ohC s.ws p:=⟨_,rfl⟩
 obtain⟨Ye,hYe⟩: ∃M,M=ohE s.ws p:=⟨_,rfl⟩
 have HND:=ZZ (show liN s.objs s.ws p=⟨Kd,FS,RS⟩ by unfold liN;rw[hK,hFS,hRS]);rw[← hK, ← hMk, ← hCu, ← hYe,hF,hRr] at HH;rw[HND.out];obtain⟨c0,c1,c2,c3,c4,c5,c6,c7,c8,c9⟩:=SB.out;clear hW0 hW hsb hr hb1 hb2 hb3 hb4 hb5 hb6 hF hRr hx1 hx2 hx3 hl3 hlw hFS hRS hFP hRP hPP hK hMk hCu hYe h hB hok hpar hmay hp ht
 go_enter Tryz.func42,Tryz.ntmps42
 go_upto_region 1 with fail
 rw[HW0.out,HW.out, ← HSB.out]
 go_wp2_with fail
 go_at_call 68;refine HH.out.mono ?_;rintro e w2 ⟨rfl,o⟩;obtain⟨W2,hW2,HB2⟩:=ZT w2 Kd (F:Nat) (R:Nat) Mk Cu;have HW2:=ZZ hW2;have O2:=ZZ (OW.out.trans (o.trans HB2.out.1));have S2:=ZZ (SB.out.keep (o.trans HB2.out.1));have BN2:=ZZ (BN.out.keep (o.trans HB2.out.1) id)
 obtain⟨hb,hhb⟩: ∃q,q=w2.heap.size:=⟨_,rfl⟩
 have HHB:=ZZ hhb;have BH:=ZZ HB2.out.2;rw[← hhb] at BH
 have hne:sb+1<hb:=by have:=o.size;omega
 clear c0 c1 c2 c3 c4 c5 c6 c7 c8 c9 hW2 hhb o
 go_upto_region 2 with fail
 rw[HW2.out, ← HHB.out];have d1:W2.cell? ⟨hb,1,none⟩=some (.int .i64 (F:Nat)):=BH.out.cell 1;have d2:W2.cell? ⟨hb,2,none⟩=some (.int .i64 (R:Nat)):=BH.out.cell 2
 go_upto_region 5 with fail
 clear d1 d2 m1 m2 m3;have d0:W2.cell? ⟨hb,0,none⟩=some (.int .i64 Kd):=BH.out.cell 0;have c5:=S2.out.c5;have q1:=HQ1.out;have q2:=HQ2.out;have HN0:=ZZ (show Only nob W2 W2.drew from(Only.refl nob W2).drewN 1)
 go_region_held3 (fun w'=>w'.cell? ⟨hb,0,none⟩=some (.int .i64 Kd)∧w'.cell? ⟨sb,5,none⟩=some (.slice Aw s.ws.length cw))
  (first|(with_reducible exact C3.out)|(with_reducible exact C4.out)|(with_reducible exact And.intro (HN0.out.keeps d0) (HN0.out.keeps c5))|(with_reducible exact C5.out _ _ _)|go_keep)
  (first
    |(go_at_call 40
      with_reducible refine(HTU.out W2.drew (O2.out.trans HN0.out)).mono ?_
      rintro e w3 ⟨v1,rfl,own1,o3⟩;obtain⟨A1,k1,rfl, -⟩:=Zi own1;have F1:=ZZ own1;have O3:=ZZ (Only.drewL o3);have C3:=ZZ (And.intro (O3.out.keeps d0) (O3.out.keeps c5))
      clear own1 o3)
    |(go_at_call 69
      with_reducible refine(HCL.out w3 (O2.out.trans O3.out)).mono ?_
      rintro e w4 ⟨v2,rfl,own2,o4⟩;obtain⟨A2,k2,rfl, -⟩:=Zi own2;have F2:=ZZ own2;have O4:=ZZ o4;have C4:=ZZ (And.intro (o4.keeps C3.out.1) (o4.keeps C3.out.2));have BN4:=ZZ ((BN2.out.keep O3.out id).keep o4 id)
      have C5:=ZZ (show ∀x0 x1 x2:Value,(((w4.setCell ⟨sb+1,0,none⟩ x0).setCell ⟨sb+1,1,none⟩ x1).setCell ⟨sb+1,2,none⟩ x2).cell? ⟨hb,0,none⟩=some (.int .i64 Kd)∧(((w4.setCell ⟨sb+1,0,none⟩ x0).setCell ⟨sb+1,1,none⟩ x1).setCell ⟨sb+1,2,none⟩ x2).cell? ⟨sb,5,none⟩=some (.slice Aw s.ws.length cw) from fun x0 x1 x2=>by
       have oo:Only (isb (sb+1)) w4 _:=((Zc w4 (sb+1) 0 x0).trans (Zc _ _ 1 x1)).trans (Zc _ _ 2 x2);have l1:=BH.out.lt;have l2:=O3.out.size;have l3:=o4.size
       exact⟨(oo.cell (p:=⟨hb,0,none⟩) (by show hb<_;omega) (fun e=>by unfold isb at e;simp only at e;omega)).trans C4.out.1,(oo.cell (p:=⟨sb,5,none⟩) (by show sb<_;omega) (fun e=>by unfold isb at e;simp only at e;omega)).trans C4.out.2⟩)
      have y0:w4.cell? ⟨sb+1,0,none⟩=some (.int .i64 0):=BN4.out.cell 0;have y1:w4.cell? ⟨sb+1,1,none⟩=some (.slice none 0 0):=BN4.out.cell 1;have y2:w4.cell? ⟨sb+1,2,none⟩=some (.slice none 0 0):=BN4.out.cell 2;have z0:=BN4.out.free 0;have z1:=BN4.out.free 1;have z2:=BN4.out.free 2
      clear own2 o4))
 all_goals
  clear y0 y1 y2 z0 z1 z2;have O5:=ZZ (O2.out.trans (O3.out.trans O4.out));obtain⟨W5,hW5,o5,p5,b5⟩:=ZuF O5.out (Nat.le_of_lt (by rw[← HSB.out];exact Nat.lt_succ_self sb)) BN4.out (.int .i64 Kd) (.slice A1 FS.length k1) (.slice A2 RS.length k2)
  have hsz:w.heap.size≤w3.heap.size∧w.heap.size≤w4.heap.size:=⟨(O2.out.trans O3.out).size,O5.out.size⟩
  have hw2:sb+1<W2.heap.size:=BN2.out.lt;have hw23:=O3.out.size;have G1:=Za (Za F1.out O4.out fun _ _=>id) p5 (fun k e1 e2=>by unfold isb at e2;have h9:W2.drew.heap.size≤k:=(Zh F1.out e1).1;have h8:W2.drew.heap.size=W2.heap.size:=rfl;omega);have G2:=Za F2.out p5 (fun k e1 e2=>by unfold isb at e2;have h9:=(Zh F2.out e1).1;omega);have HNO:=ZZ (show NdO W5 w.heap.size ⟨Kd,FS,RS⟩ ((.slice A1 FS.length k1),(.slice A2 RS.length k2)) from⟨Zaf G1 (fun k e1=>by have h9:W2.drew.heap.size≤k:=(Zh F1.out e1).1;have h8:W2.drew.heap.size=W2.heap.size:=rfl;have:=O2.out.size;omega),Zaf G2 (fun k e1=>by have h9:=(Zh F2.out e1).1;omega)⟩);rw[hW5];have r0:W5.cell? ⟨sb+1,0,none⟩=some (.int .i64 Kd):=b5.cell 0;have r1:W5.cell? ⟨sb+1,1,none⟩=some (.slice A1 FS.length k1):=b5.cell 1;have r2:W5.cell? ⟨sb+1,2,none⟩=some (.slice A2 RS.length k2):=b5.cell 2;go_wp2;refine bodyPost_ret (v:=.agg #[.int .i64 Kd,(.slice A1 FS.length k1),(.slice A2 RS.length k2)]) (by simp[results,Tryz.results42,go_sem,r0,r1,r2]) rfl ⟨_,_,rfl,HNO.out,o5⟩
end Go.Proofs.YtknoncenblehkaaGreatDoor
