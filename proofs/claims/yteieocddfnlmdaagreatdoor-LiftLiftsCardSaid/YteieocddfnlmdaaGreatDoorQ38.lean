/- A heap as a graph, in plain words: it may be, it has all wor The document's own answer for layer 19: a word's value, in a -/
import Derived.Test.YteieocddfnlmdaaGreatDoorQ37
set_option maxRecDepth 100000
set_option maxHeartbeats 32000000
set_option linter.unusedSimpArgs false
set_option linter.unusedVariables false
namespace Go.Proofs.YteieocddfnlmdaaGreatDoor
section
open Go.RowKit
def Zck (all:List Int) (x:Nat):Sp:=if dK x=2∧dX x∈all then(2,plc all (dX x)) else(dK x,dX x)
def Zlg (all:List Int) (l:List Nat) (p:Int):List Sp:=(List.range (ohF l p).toNat).map fun k:Nat=>Zck all (wd l (p+1+(k:Nat)).toNat)
def Zm7 (l:List Nat) (p:Int):List Nat:=(List.range (ohR l p).toNat).map fun k:Nat=>wd l (p+1+ohF l p+(k:Nat)).toNat
def liN (all:List Int) (l:List Nat) (p:Int):Nd:=⟨ohK l p,Zlg all l p,Zm7 l p⟩
def ZfK (sl:List Slt):List Slt:=sl.filter (·.1)
def Zes (all:List Int) (sl:List Slt):List Sp:=(ZfK sl).map fun t=>Zck all t.2.2
def Zmc (x:Nat):Sp:=(dK x,dX x)
noncomputable def liG (s:St):Gr:=if Zar s=0 then⟨s.objs.map (liN s.objs s.ws),Zes s.objs s.sl⟩ else⟨[],[]⟩
noncomputable def liV (s:St):List Sp:=if Zar s=0 then(ZfK s.sl).map fun t=>Zmc t.2.2 else[]
theorem Zdq {s:St} (h:Zar s=0):liG s=⟨s.objs.map (liN s.objs s.ws),Zes s.objs s.sl⟩:=if_pos h
theorem Zlh {s:St} (h:Zar s≠0):liG s=⟨[],[]⟩:=if_neg h
theorem ZtU {x:Int} (hx:0≤x∧x<18446744073709551616) (h:dE x=0):ZbO (dK x) (dX x)=true:=by
 by_cases h1:x % 4=1
 · by_cases h2:x / 4<2305843009213693952
   · rw[(Zuv h1 h2).1,(Zuv h1 h2).2.1,Zmj,Zab];omega
   · rw[(ZiV h1 h2).1,(ZiV h1 h2).2.1,Zmj,Zab];omega
 · by_cases h2:x % 4=2∧x / 4≤1099511627776
   · rw[(Zim h2.1 h2.2).1,(Zim h2.1 h2.2).2.1,ZlS,Zab];omega
   · by_cases h0:x=0
     · rw[h0,ZeB.1,ZeB.2.1];rfl
     · rw[(Zh9 h0 h1 h2).2.2] at h;cases h
theorem ZoI {l:List Int} {z:Int}:Zas l z=true↔z∈l:=by
 unfold Zas;simp
theorem Zk1 {all:List Int} {x:Nat} (hx:x<18446744073709551616) (h:leads all x=true) (hn:all.length≤1000000):vOk all.length (Zck all x)=true:=by
 unfold leads at h;rw[Bool.and_eq_true,decide_eq_true_iff,Bool.or_eq_true] at h;obtain⟨h0,h1⟩:=h;have hm:=ZtU (x:=x) (by omega) h0;unfold Zck
 split
 · rename_i h2
   obtain⟨k,e,hk⟩:=ZpP h2.2
   have:=(Yk.1 hk).1
   rw[e];unfold vOk;rw[ZlS];simp[vin];omega
 · rename_i h2
   have h3:dK x≠2:=by
    intro e;rcases h1 with h1|h1
    · rw[Ym e] at h1;cases h1
    · exact h2 ⟨e,ZoI.1 h1⟩
   unfold vOk;simp only;rw[hm,Yl h3];rfl
theorem Zm4 {l:List Nat} (h:Za8 l) (p:Nat):wd l p<18446744073709551616:=by
 unfold wd;rw[Yn]
 cases e:l[p]? with
 |none=>decide
 |some x=>exact h x (Yo e)
section
variable {s:St}
theorem ZeF (h:May15 s) {p:Int} (hp:p∈s.objs) {k:Nat} (hk:k<(ohF s.ws p).toNat):leads s.objs (wd s.ws (p+1+(k:Nat)).toNat)=true:=by
 have h8:=h.fields;unfold r8 at h8
 have:=List.all_eq_true.1 h8 p hp
 unfold Zcj at this;exact List.all_eq_true.1 this k (List.mem_range.2 hk)
theorem Zft (h:May15 s) {t:Slt} (ht:t∈ZfK s.sl):leads s.objs t.2.2=true:=by
 obtain⟨h1,h2⟩:=List.mem_filter.1 ht;have h9:=h.leads;unfold r9 at h9
 have:=List.all_eq_true.1 h9 t h1
 rw[h2] at this;simpa using this
theorem ZhU {l:List Slt} (h:Znq l) {t:Slt} (ht:t∈ZfK l):t.2.2<18446744073709551616:=by
 have:=(h t (List.mem_filter.1 ht).1).2.2
 exact this
theorem Zr2 (h:May15 s) (hw:Za8 s.ws) (hn:s.objs.length≤1000000) {p:Int} (hp:p∈s.objs):Zja s.objs.length (liN s.objs s.ws p)=true:=by
 obtain⟨b1,b2,b3,b4,b5,b6,b7⟩:=Zat (h.head hp).1;have hb:=Zaw.1 b7;refine Zb6.2 ⟨hb.1,?_,?_,fun v hv=>?_⟩
 · show(Zlg _ _ _).length≤4096
   unfold Zlg;rw[List.length_map,List.length_range];omega
 · show(Zm7 _ _).length≤4096
   unfold Zm7;rw[List.length_map,List.length_range];omega
 · have hv':v∈Zlg s.objs s.ws p:=hv
   unfold Zlg at hv';obtain⟨k,hk,rfl⟩:=List.mem_map.1 hv';exact Zk1 (Zm4 hw _) (ZeF h hp (List.mem_range.1 hk)) hn
theorem Zua (h:Zar s=0) (hok:StOk s) (hn:s.objs.length≤1000000):Z9 (liG s)=true:=by
 have hm:=ZaM.1 h;rw[Zdq h];refine Zb9.2 ⟨fun d hd=>?_,fun v hv=>?_⟩
 · simp only at hd ⊢
   rw[List.length_map];obtain⟨p,hp,rfl⟩:=List.mem_map.1 hd;exact Zr2 hm hok.ws hn hp
 · simp only at hv ⊢
   rw[List.length_map];unfold Zes at hv;obtain⟨t,ht,rfl⟩:=List.mem_map.1 hv;exact Zk1 (ZhU hok.sl ht) (Zft hm ht) hn
theorem Zm1 (h:May15 s):(s.smalls.length:Int)≤s.ws.length:=by
 rw[h.smalls_ats,ZhS,h.steps_tr];have h1:=ZoF (ZbG s.ws) (top:=s.top) s.frm.1;have h2:=Za5 h.ok s.sec;have h3:=of_decide_eq_true h.top;have h4:=h.many;have h5:=Zco h.ok;unfold St.frm at h1 h3 ⊢;have h6:=h.ok;unfold Cf.ok at h6
 split at h1 <;> omega
theorem ZdK (h:May15 s) (hL:Zaa s=false):s.objs.length≤460:=by
 have h1:=Zm1 h;have h2:=ZdX hL;unfold St.objs;rw[Ys,List.length_map];omega
theorem Zub (h:Zar s=0):(liG s).nd.length=s.objs.length:=by rw[Zdq h];simp
theorem ZhQ (l:List Slt):(ZfK l).length≤l.length:=List.length_filter_le _ _
theorem liG_bd (hL:Zaa s=false):(liG s).nd.length≤460∧(liG s).rt.length≤100:=by
 by_cases h:Zar s=0
 · refine⟨by rw[Zub h];exact ZdK (ZaM.1 h) hL,?_⟩
   rw[Zdq h];unfold Zes;have h1:=ZhQ s.sl;have h2:=ZdX hL;simp only[List.length_map];omega
 · rw[Zlh h];simp
theorem ZkA {all:List Int} {x:Nat} (hx:x<18446744073709551616) (hn:all.length≤1000000):(-9223372036854775808≤(Zck all x).1∧(Zck all x).1≤9223372036854775807)∧ -9223372036854775808≤(Zck all x).2∧(Zck all x).2≤9223372036854775807:=by
 unfold Zck
 split
 · rename_i h2
   obtain⟨k,e,hk⟩:=ZpP h2.2
   have:=(Yk.1 hk).1
   rw[e];simp only;omega
 · simp only
   unfold dK dX
   refine⟨?_,?_⟩ <;> (repeat' split) <;> omega
theorem liG_fit (hok:StOk s) (hL:Zaa s=false):GrFit (liG s):=by
 by_cases h:Zar s=0
 · have hm:=ZaM.1 h
   have hn:s.objs.length≤1000000:=by have:=ZdK hm hL;omega
   rw[Zdq h];refine⟨fun d hd=>?_,fun d hd v hv=>?_,fun d hd x hx=>?_,fun v hv=>?_⟩
   · obtain⟨p,hp,rfl⟩:=List.mem_map.1 hd
     have:=(Zb6.1 (Zr2 hm hok.ws hn hp)).1
     omega
   · obtain⟨p,hp,rfl⟩:=List.mem_map.1 hd
     have hv':v∈Zlg s.objs s.ws p:=hv;unfold Zlg at hv';obtain⟨k,hk,rfl⟩:=List.mem_map.1 hv';exact ZkA (Zm4 hok.ws _) hn
   · obtain⟨p,hp,rfl⟩:=List.mem_map.1 hd
     have hx':x∈Zm7 s.ws p:=hx;unfold Zm7 at hx';obtain⟨k,hk,rfl⟩:=List.mem_map.1 hx';exact Zm4 hok.ws _
   · unfold Zes at hv
     obtain⟨t,ht,rfl⟩:=List.mem_map.1 hv;exact ZkA (ZhU hok.sl ht) hn
 · rw[Zlh h]
   exact⟨(fun _ h=>by cases h),(fun _ h=>by cases h),(fun _ h=>by cases h),fun _ h=>by cases h⟩
end
end
section
open Go.RowKit Go.Lib
theorem ZlE {all:List Int} {K X:Int} {k:Nat} {y:Int} (h:K=2→ ∀(j:Nat) z,j<k→all[j]? =some z→z≠X) (hy:all[k]? =some y) (hn:K=2→y≠X):K=2→ ∀(j:Nat) z,j<k+1→all[j]? =some z→z≠X:=fun e j z hj hz=>by
 rcases Yq j k with h'|h'
 · exact h e j z h' hz
 · obtain rfl:j=k:=by omega
   rw[hy] at hz;rw[← Yp hz];exact hn e
theorem Zs3 (v:Value) (all:List Int) (x:Nat) (B:Nat) (w:World) (h:Sl w B 1 v all.length (i64s all)) (hB:B≤w.heap.size) (hx:x<18446744073709551616):
 Calls Tryz.prog 34 #[v,.int .u64 (x:Nat)] w fun e w'=>e=.returned (.agg #[.int .i64 (Zck all x).1,.int .i64 (Zck all x).2])∧Only nob w w':=by
 have HA:=ZZ h;have HBB:=ZZ hB;obtain⟨A,ca,rfl,hac,ham, -⟩:=h;unfold maxLen at ham;obtain⟨W,hW,HBW⟩:=Zd5 w;have HWE:=ZZ hW;have HD:=ZZ (Zc4 (n:=(x:Int)) ⟨by omega,by omega⟩ W);have HQ:=ZZ (show Zck all x=if dK x=2∧dX x∈all then(2,plc all (dX x)) else(dK x,dX x) from rfl)
 obtain⟨K,hK⟩: ∃K:Int,K=dK x:=⟨_,rfl⟩
 obtain⟨X,hX⟩: ∃X:Int,X=dX x:=⟨_,rfl⟩
 obtain⟨E,hE⟩: ∃E:Int,E=dE x:=⟨_,rfl⟩
 rw[← hK, ← hX] at HQ;rw[← hK, ← hX, ← hE] at HD
 obtain⟨q,hq⟩: ∃q,q=Zck all x:=⟨_,rfl⟩
 rw[← hq] at HQ ⊢;clear hW hK hX hE hq hB
 go_enter Tryz.func34,Tryz.ntmps34
 go_upto_region 1 with fail
 rw[HWE.out]
 go_wp2_with fail
 go_at_call 36;refine HD.out.mono ?_;rintro e w2 ⟨rfl,o2⟩;obtain⟨U,hU,HBU⟩:=Zae w2 K X;have HUE:=ZZ hU;have OU:=ZZ (HBW.out.1.trans (o2.trans HBU.out.1));have BR:=ZZ (HBW.out.2.keep (o2.trans HBU.out.1) id);have hne:w.heap.size<w2.heap.size:=Yw HBW.out.2.lt o2.size;clear hU o2
 go_upto_region 2 with fail
 rw[HUE.out]
 obtain⟨p,hp⟩: ∃p,p=w2.heap.size:=⟨_,rfl⟩
 have BV:=ZZ HBU.out.2;rw[← hp] at BV hne;rw[← hp];clear hp
 go_wp2_with fail
 go_loopw [7] (fun i wr=> ∃k m:Nat,k≤all.length∧i=.int .i64 k∧Hid (K=2→ ∀(j:Nat) y,j<k→all[j]? =some y→y≠X)∧wr=U.drewN m) (fun i _=>all.length - (intOf i).toNat)
 case atStart=>exact⟨0,0,Yu _,rfl,fun _ j _ hj _=>absurd hj (Nat.not_lt_zero j),rfl⟩
 case round=>
  obtain⟨k,m,hk,rfl,hno,rfl⟩:=hrel;have c0:U.cell? ⟨p,0,none⟩=some (.int .i64 K):=BV.out.cell 0;have c1:U.cell? ⟨p,1,none⟩=some (.int .i64 X):=BV.out.cell 1;by_cases hlt:k<all.length
  · obtain⟨y,hy⟩: ∃x,all[k]? =some x:=⟨_,Ya hlt⟩
    obtain⟨b1,o1,rfl, -,g0⟩:=ZaU HA.out (OU.out.below HBB.out fun _ h=>h.elim) hy;have HY:=ZZ hy;clear hy;by_cases hk2:K=2
    · subst hk2
      by_cases hyx:X=y
      · subst hyx
        have HF:=ZZ (HQ.out.trans (if_pos ⟨rfl,Yo HY.out⟩));have HP:=ZZ (ZoX HY.out fun j z hj hz=>hno.out rfl j z hj hz);go_wp2
        go_quiet (fail)
        rename_i nq
        have b0:U.cell? ⟨w.heap.size,0,none⟩=some (.int .i64 0):=BR.out.cell 0;have b1:U.cell? ⟨w.heap.size,1,none⟩=some (.int .i64 0):=BR.out.cell 1;have fb0:=BR.out.free 0;have fb1:=BR.out.free 1;obtain⟨W4,hW4,o4,r0,r1⟩:=Zcz (OU.out.drewN (m+nq)) (Yj _) (show Blk (U.drewN (m+nq)) w.heap.size 63 #[.int .i64 0,.int .i64 0] from BR.out) 2 (k:Int);have HW4:=ZZ hW4;have O4:=ZZ o4;have HFP:=ZZ (show q=(2,(k:Int)) by rw[HF.out,HP.out]);clear hW4 o4;go_wp2;rw[HW4.out];refine bodyPost_ret (v:=.agg #[.int .i64 2,.int .i64 (k:Int)]) (by simp[results,Tryz.results34,go_sem,r0,r1]) rfl ⟨by rw[HFP.out],O4.out⟩
      · have hbq:(X==y)=false:=by simpa using hyx
        have HNX:=ZZ (ZlE hno.out HY.out fun _=>fun e=>hyx e.symm);clear hyx;go_wp2
        go_quiet (fail)
        go_wp2
        go_roundw
        case rel=>exact⟨k+1,_,by omega,by go_num,HNX,rfl⟩
        case measure=>simp[intOf];omega
    · have hbq:(K==2)=false:=by simpa using hk2
      have HNX:=ZZ (ZlE hno.out HY.out fun e=>absurd e hk2);clear hk2;go_wp2
      go_quiet (fail)
      go_wp2
      go_roundw
      case rel=>exact⟨k+1,_,by omega,by go_num,HNX,rfl⟩
      case measure=>simp[intOf];omega
  · obtain rfl:k=all.length:=by omega
    have HF:=ZZ (show q=(K,X) from HQ.out.trans (if_neg fun ⟨e,hm⟩=>by
     obtain⟨j,hj⟩:=List.getElem?_of_mem hm
     exact hno.out e j X (Yk.1 hj).1 hj rfl))
    have b0:U.cell? ⟨w.heap.size,0,none⟩=some (.int .i64 0):=BR.out.cell 0;have b1:U.cell? ⟨w.heap.size,1,none⟩=some (.int .i64 0):=BR.out.cell 1;have fb0:=BR.out.free 0;have fb1:=BR.out.free 1;obtain⟨W4,hW4,o4,r0,r1⟩:=Zcz (OU.out.drewN m) (Yj _) (show Blk (U.drewN m) w.heap.size 63 #[.int .i64 0,.int .i64 0] from BR.out) K X;have HW4:=ZZ hW4;have O4:=ZZ o4;clear hW4 o4;go_wp2;rw[HW4.out];refine bodyPost_ret (v:=.agg #[.int .i64 K,.int .i64 X]) (by simp[results,Tryz.results34,go_sem,r0,r1]) rfl ⟨by rw[HF.out],O4.out⟩
end
end Go.Proofs.YteieocddfnlmdaaGreatDoor
