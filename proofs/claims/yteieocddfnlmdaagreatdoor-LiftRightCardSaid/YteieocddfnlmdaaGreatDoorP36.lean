/- A heap as a graph, in plain words: it may be, it has all wor The document's own answer for layer 19: a heap as a graph. ( The document's own answer for layer 19: values, what is met, The laws of chapter 19: walked, over what package lift is as -/
import Derived.Test.YteieocddfnlmdaaGreatDoorP35
import Derived.Test.YteieocddfnlmdaaGreatDoorP21
namespace Go.Proofs.YteieocddfnlmdaaGreatDoor
open Go.RowKit
def Zff (all:List Int) (x:Nat):Sp:=if dK x=2∧dX x∈all then(2,plc all (dX x)) else(dK x,dX x)
def ZkK (all:List Int) (l:List Nat) (p:Int):List Sp:=(List.range (ohF l p).toNat).map fun k:Nat=>Zff all (wd l (p+1+(k:Nat)).toNat)
def ZlF (l:List Nat) (p:Int):List Nat:=(List.range (ohR l p).toNat).map fun k:Nat=>wd l (p+1+ohF l p+(k:Nat)).toNat
def liN (all:List Int) (l:List Nat) (p:Int):Nd:=⟨ohK l p,ZkK all l p,ZlF l p⟩
def ZiT (sl:List Slt):List Slt:=sl.filter (·.1)
def ZjH (all:List Int) (sl:List Slt):List Sp:=(ZiT sl).map fun t=>Zff all t.2.2
def Zn0 (x:Nat):Sp:=(dK x,dX x)
noncomputable def liG (s:St):Gr:=if ZT s=0 then⟨s.objs.map (liN s.objs s.ws),ZjH s.objs s.sl⟩ else⟨[],[]⟩
noncomputable def liV (s:St):List Sp:=if ZT s=0 then(ZiT s.sl).map fun t=>Zn0 t.2.2 else[]
theorem Za2 {s:St} (h:ZT s=0):liG s=⟨s.objs.map (liN s.objs s.ws),ZjH s.objs s.sl⟩:=if_pos h
theorem ZmC {s:St} (h:ZT s≠0):liG s=⟨[],[]⟩:=if_neg h
theorem ZqG {x:Int} (hx:0≤x∧x<18446744073709551616) (h:dE x=0):Zcg (dK x) (dX x)=true:=by
 by_cases h1:x % 4=1
 · by_cases h2:x / 4<2305843009213693952
   · rw[(Zr4 h1 h2).1,(Zr4 h1 h2).2.1,Zqf,ZL];omega
   · rw[(Zho h1 h2).1,(Zho h1 h2).2.1,Zqf,ZL];omega
 · by_cases h2:x % 4=2∧x / 4≤1099511627776
   · rw[(ZhI h2.1 h2.2).1,(ZhI h2.1 h2.2).2.1,ZqV,ZL];omega
   · by_cases h0:x=0
     · rw[h0,ZdA.1,ZdA.2.1];rfl
     · rw[(ZhB h0 h1 h2).2.2] at h;cases h
theorem Zjq {all:List Int} {x:Nat} (hx:x<18446744073709551616) (h:leads all x=true) (hn:all.length≤1000000):vOk all.length (Zff all x)=true:=by
 unfold leads at h;rw[Bool.and_eq_true,decide_eq_true_iff,Bool.or_eq_true] at h;obtain⟨h0,h1⟩:=h;have hm:=ZqG (x:=x) (by omega) h0;unfold Zff
 split
 · rename_i h2
   obtain⟨k,e,hk⟩:=ZmU h2.2
   have:=(List.getElem?_eq_some_iff.1 hk).1
   rw[e];unfold vOk;rw[ZqV];simp[vin];omega
 · rename_i h2
   have h3:dK x≠2:=by
    intro e;rcases h1 with h1|h1
    · rw[decide_eq_true e] at h1;cases h1
    · exact h2 ⟨e,ZcM.1 h1⟩
   unfold vOk;simp only;rw[hm,decide_eq_false h3];rfl
theorem ZoT {l:List Nat} (h:ZaC l) (p:Nat):wd l p<18446744073709551616:=by
 unfold wd;rw[List.getD_eq_getElem?_getD]
 cases e:l[p]? with
 |none=>decide
 |some x=>exact h x (List.mem_of_getElem? e)
section
variable {s:St}
theorem Zdx (h:May15 s) {p:Int} (hp:p∈s.objs) {k:Nat} (hk:k<(ohF s.ws p).toNat):leads s.objs (wd s.ws (p+1+(k:Nat)).toNat)=true:=by
 have h8:=h.fields;unfold r8 at h8
 have:=List.all_eq_true.1 h8 p hp
 unfold ZcA at this;exact List.all_eq_true.1 this k (List.mem_range.2 hk)
theorem ZeG (h:May15 s) {t:Slt} (ht:t∈ZiT s.sl):leads s.objs t.2.2=true:=by
 obtain⟨h1,h2⟩:=List.mem_filter.1 ht;have h9:=h.leads;unfold r9 at h9
 have:=List.all_eq_true.1 h9 t h1
 rw[h2] at this;simpa using this
theorem Zgb {l:List Slt} (h:Zhd l) {t:Slt} (ht:t∈ZiT l):t.2.2<18446744073709551616:=by
 have:=(h t (List.mem_filter.1 ht).1).2.2
 exact this
theorem ZpN (h:May15 s) (hw:ZaC s.ws) (hn:s.objs.length≤1000000) {p:Int} (hp:p∈s.objs):Zi2 s.objs.length (liN s.objs s.ws p)=true:=by
 obtain⟨b1,b2,b3,b4,b5,b6,b7⟩:=Zaj (h.head hp).1;have hb:=ZaD.1 b7;refine ZbZ.2 ⟨hb.1,?_,?_,fun v hv=>?_⟩
 · show(ZkK _ _ _).length≤4096
   unfold ZkK;rw[List.length_map,List.length_range];omega
 · show(ZlF _ _).length≤4096
   unfold ZlF;rw[List.length_map,List.length_range];omega
 · have hv':v∈ZkK s.objs s.ws p:=hv
   unfold ZkK at hv';obtain⟨k,hk,rfl⟩:=List.mem_map.1 hv';exact Zjq (ZoT hw _) (Zdx h hp (List.mem_range.1 hk)) hn
theorem Zpn (h:ZT s=0) (hok:StOk s) (hn:s.objs.length≤1000000):Zad (liG s)=true:=by
 have hm:=ZE.1 h;rw[Za2 h];refine Zca.2 ⟨fun d hd=>?_,fun v hv=>?_⟩
 · simp only at hd ⊢
   rw[List.length_map];obtain⟨p,hp,rfl⟩:=List.mem_map.1 hd;exact ZpN hm hok.ws hn hp
 · simp only at hv ⊢
   rw[List.length_map];unfold ZjH at hv;obtain⟨t,ht,rfl⟩:=List.mem_map.1 hv;exact Zjq (Zgb hok.sl ht) (ZeG hm ht) hn
theorem ZkD (h:May15 s):(s.smalls.length:Int)≤s.ws.length:=by
 rw[h.smalls_ats,ZiM,h.steps_tr];have h1:=Zni (ZaX s.ws) (top:=s.top) s.frm.1;have h2:=Zah h.ok s.sec;have h3:=of_decide_eq_true h.top;have h4:=h.many;have h5:=ZbJ h.ok;unfold St.frm at h1 h3 ⊢;have h6:=h.ok;unfold Cf.ok at h6
 split at h1 <;> omega
theorem Zc0 (h:May15 s) (hL:ZH s=false):s.objs.length≤460:=by
 have h1:=ZkD h;have h2:=Zd6 hL;unfold St.objs;rw[List.length_append,List.length_map];omega
theorem Zpz (h:ZT s=0):(liG s).nd.length=s.objs.length:=by rw[Za2 h];simp
theorem Zf1 (l:List Slt):(ZiT l).length≤l.length:=List.length_filter_le _ _
theorem liG_bd (hL:ZH s=false):(liG s).nd.length≤460∧(liG s).rt.length≤100:=by
 by_cases h:ZT s=0
 · refine⟨by rw[Zpz h];exact Zc0 (ZE.1 h) hL,?_⟩
   rw[Za2 h];unfold ZjH;have h1:=Zf1 s.sl;have h2:=Zd6 hL;simp only[List.length_map];omega
 · rw[ZmC h];simp
theorem Zi5 {all:List Int} {x:Nat} (hx:x<18446744073709551616) (hn:all.length≤1000000):(-9223372036854775808≤(Zff all x).1∧(Zff all x).1≤9223372036854775807)∧ -9223372036854775808≤(Zff all x).2∧(Zff all x).2≤9223372036854775807:=by
 unfold Zff
 split
 · rename_i h2
   obtain⟨k,e,hk⟩:=ZmU h2.2
   have:=(List.getElem?_eq_some_iff.1 hk).1
   rw[e];simp only;omega
 · simp only
   unfold dK dX
   refine⟨?_,?_⟩ <;> (repeat' split) <;> omega
theorem liG_fit (hok:StOk s) (hL:ZH s=false):GrFit (liG s):=by
 by_cases h:ZT s=0
 · have hm:=ZE.1 h
   have hn:s.objs.length≤1000000:=by have:=Zc0 hm hL;omega
   rw[Za2 h];refine⟨fun d hd=>?_,fun d hd v hv=>?_,fun d hd x hx=>?_,fun v hv=>?_⟩
   · obtain⟨p,hp,rfl⟩:=List.mem_map.1 hd
     have:=(ZbZ.1 (ZpN hm hok.ws hn hp)).1
     omega
   · obtain⟨p,hp,rfl⟩:=List.mem_map.1 hd
     have hv':v∈ZkK s.objs s.ws p:=hv;unfold ZkK at hv';obtain⟨k,hk,rfl⟩:=List.mem_map.1 hv';exact Zi5 (ZoT hok.ws _) hn
   · obtain⟨p,hp,rfl⟩:=List.mem_map.1 hd
     have hx':x∈ZlF s.ws p:=hx;unfold ZlF at hx';obtain⟨k,hk,rfl⟩:=List.mem_map.1 hx';exact ZoT hok.ws _
   · unfold ZjH at hv
     obtain⟨t,ht,rfl⟩:=List.mem_map.1 hv;exact Zi5 (Zgb hok.sl ht) hn
 · rw[ZmC h]
   exact⟨(fun _ h=>by cases h),(fun _ h=>by cases h),(fun _ h=>by cases h),fun _ h=>by cases h⟩
theorem ZrR {h:Int→Hd} (H:Zk5 h) (top a:Int) (ha:a≤top) (hok: ∀y∈tr h top a,y.e=0):suW h (ats (tr h top a))=top - a:=by
 revert ha hok;refine ZgZ H top (P:=fun a=>a≤top→(∀y∈tr h top a,y.e=0)→suW h (ats (tr h top a))=top - a) ?_ ?_ ?_ a
 · intro a ha hle _
   rw[Zc6 ha];show(0:Int)=_;omega
 · intro a ha hs _ hok
   rw[Zdy ha hs] at hok
   have:=hok _ (List.mem_singleton.2 rfl)
   rw[ZcP] at this;exact absurd this hs
 · intro a ha hs ih _ hok
   rw[Zfk H ha hs] at hok ⊢;have h1:=Za5 hs
   have:=ih (by omega) fun y hy=>hok y (List.mem_cons_of_mem _ hy)
   show osz h (item h top a).at_+suW h (ats (tr h top (a+osz h a)))=top - a;rw[this,Zax];omega
theorem Zih {h:Int→Hd}: ∀(l:List Int),suW h l=(l.map (osz h)).sum
 |[]=>rfl
 |a::l=>by simp only[suW,List.map_cons,List.sum_cons,Zih l]
theorem ZlV (h:May15 s) {p:Int} (hp:p∈s.objs):ZdN (liN s.objs s.ws p)=osz (hAr s.ws) p:=by
 obtain⟨b1,b2, -⟩:=Zaj (h.head hp).1;show 1+((ZkK _ _ _).length:Int)+((ZlF _ _).length:Int)=1+ohF s.ws p+ohR s.ws p;unfold ZkK ZlF;rw[List.length_map,List.length_range,List.length_map,List.length_range];omega
theorem Zo3 (h:May15 s) {x:Sp} (hx:x∈s.tb):osz (hAr s.ws) x.1=x.2:=by
 have h6:=h.big;unfold r6 at h6;rw[Bool.and_eq_true,List.all_eq_true] at h6
 have:=h6.2 x hx
 unfold Proofs.YteieocddfnlmdaaGreatDoor.big at this;rw[Bool.and_eq_true,Bool.and_eq_true,decide_eq_true_iff,decide_eq_true_iff] at this;exact this.2.1
def Zk9 (l:List Sp):Int:=(l.map (·.2)).sum
theorem ZqT (h:May15 s):((s.objs.map (liN s.objs s.ws)).map ZdN).sum=(s.top - s.frm.1)+Zk9 s.tb:=by
 have e1:(s.objs.map (liN s.objs s.ws)).map ZdN=s.objs.map (osz (hAr s.ws)):=by
  rw[List.map_map];exact List.map_congr_left fun p hp=>ZlV h hp
 rw[e1, ← Zih];unfold St.objs;rw[Zkv]
 have h1:suW (hAr s.ws) s.smalls=s.top - s.frm.1:=by
  rw[h.smalls_ats,h.steps_tr];have ht:=of_decide_eq_true h.top;exact ZrR (ZaX _) _ _ ht.1 (by rw[← h.steps_tr];exact h.steps_ok)
 have h2:suW (hAr s.ws) (s.tb.map (·.1))=Zk9 s.tb:=by
  rw[Zih,List.map_map];unfold Zk9;exact congrArg List.sum (List.map_congr_left fun x hx=>Zo3 h hx)
 rw[h1,h2]
theorem Znz (g:Gr): ∀n,n≤g.nd.length→((List.range n).map fun k:Nat=>wAt g (k:Nat)).sum=((g.nd.take n).map ZdN).sum
 |0,_=>by simp
 |n+1,hn=>by
  have ih:=Znz g n (by omega);have hd:g.nd[n]? =some g.nd[n]:=List.getElem?_eq_getElem hn;rw[List.range_succ,List.map_append,List.sum_append,ih,List.take_add_one,hd,List.map_append,List.sum_append]
  have e:wAt g ((n:Nat):Int)=ZdN g.nd[n]:=by
   unfold wAt ZfW;rw[if_pos (by omega),show((n:Nat):Int).toNat=n from rfl,hd]
  simp[e]
def ZnD (n:Nat):List Int:=(List.range n).map fun k:Nat=>(k:Int)
theorem Zll (h:ZT s=0):Zhy (liG s) (ZnD (liG s).nd.length)=wrap64 ((s.top - s.frm.1)+Zk9 s.tb):=by
 unfold Zhy ZnD;rw[List.map_map]
 have:=Znz (liG s) (liG s).nd.length (Nat.le_refl _)
 rw[List.take_length] at this;show wrap64 (((List.range (liG s).nd.length).map fun k:Nat=>wAt (liG s) (k:Nat)).sum)=_;rw[this,Za2 h];show wrap64 (((s.objs.map (liN s.objs s.ws)).map ZdN).sum)=_;rw[ZqT (ZE.1 h)]
theorem ZlQ (h:May15 s) {a:Nat} (w:Nat) (hn: ∀p∈s.objs, ¬(p≤a∧(a:Int)<p+1+ohF s.ws p+ohR s.ws p)):
 St.objs {s with ws:=s.ws.set a w}=s.objs∧ ∀p∈s.objs,hAr (s.ws.set a w) p=hAr s.ws p:=by
 have hh: ∀p∈s.objs,hAr (s.ws.set a w) p=hAr s.ws p:=fun p hp=>by
  obtain⟨n,rfl, -, -,h3,h4⟩:=h.far hp;refine ZlT (fun e=>hn _ hp ?_) (by omega);omega
 refine⟨?_,hh⟩;have hsm: ∀p∈s.smalls,p∈s.objs:=fun p hp=>List.mem_append_left _ hp
 have hst:St.steps {s with ws:=s.ws.set a w}=s.steps:=by
  have e1:St.steps {s with ws:=s.ws.set a w}=tr (hAr (s.ws.set a w)) s.top s.frm.1:=by
   unfold St.steps ZX;exact if_pos h.may9
  rw[e1,h.steps_tr];have hok:=h.steps_ok;have hats:=h.smalls_ats;rw[h.steps_tr] at hok hats;refine ZjC (ZaX _) (ZaX _) _ _ hok fun y hy=>hh _ (hsm _ ?_);rw[hats];exact List.mem_map.2 ⟨y,hy,rfl⟩
 unfold St.objs St.smalls;rw[hst]
theorem ZpP {l:List Nat} {a w p:Nat} (h:p≠a):wd (l.set a w) p=wd l p:=by
 unfold wd;rw[List.getD_eq_getElem?_getD,List.getD_eq_getElem?_getD,List.getElem?_set_ne (fun e=>h e.symm)]
theorem ZoC (h:ZT s=0) {a:Nat} (w:Nat) (hn: ∀p∈s.objs, ¬(p≤a∧(a:Int)<p+1+ohF s.ws p+ohR s.ws p)):ZT {s with ws:=s.ws.set a w}=0∧liG {s with ws:=s.ws.set a w}=liG s:=by
 have hm:=ZE.1 h;have h2:ZT {s with ws:=s.ws.set a w}=0:=ZE.2 (hm.idle w hn);refine⟨h2,?_⟩;obtain⟨ho,hh⟩:=ZlQ hm w hn;rw[Za2 h,Za2 h2,ho];show(⟨s.objs.map (liN s.objs (s.ws.set a w)),ZjH s.objs s.sl⟩:Gr)=_;rw[List.map_congr_left fun p hp=>show liN s.objs (s.ws.set a w) p=liN s.objs s.ws p from ?_];have e:=hh p hp;have eK:ohK (s.ws.set a w) p=ohK s.ws p:=congrArg Hd.k e;have eF:ohF (s.ws.set a w) p=ohF s.ws p:=congrArg Hd.f e;have eR:ohR (s.ws.set a w) p=ohR s.ws p:=congrArg Hd.r e;obtain⟨n,rfl, -, -,b1,b2⟩:=hm.far hp;have hnp:=hn _ hp;unfold liN ZkK ZlF;rw[eK,eF,eR]
 congr 1
 · refine List.map_congr_left fun k hk=>?_
   have hk':=List.mem_range.1 hk;rw[ZpP (by omega)]
 · refine List.map_congr_left fun k hk=>?_
   have hk':=List.mem_range.1 hk;exact ZpP (by omega)
end
end Go.Proofs.YteieocddfnlmdaaGreatDoor
namespace Go.Proofs.YteieocddfnlmdaaGreatDoor
open Go.RowKit Go.Lib
set_option maxRecDepth 100000
set_option linter.unusedSimpArgs false
set_option linter.unusedVariables false
theorem ZaF {W:World} {gb b s n:Nat} {E t:TypeId} {v:Value} {x cs} (hb:Blk W gb t cs) (h:W.ownsRow b E s v n x) (hE:t≠E): ∀j,v.ownBlock=some j→ ¬isb gb j:=fun j e e2=>by
 unfold isb at e2;subst e2;exact blk_own_ne16 hb h hE e
theorem Zq0 {l:List Nat} {p:Nat} (h:p<l.length):l[p]? =some (wd l p):=by
 unfold wd;rw[List.getD_eq_getElem?_getD,List.getElem?_eq_getElem h];rfl
theorem Zap {α:Type} {l:List α} {j:Nat} {x:α} (h:l[j]? =some x):l.take (j+1)=l.take j++[x]:=by
 rw[List.take_add_one,h];rfl
def Zrs (f:FuncId):Prop:= ∀(s:St) (vw vt vf vs:Value) (B:Nat) (w:World),Rd w B s vw vt vf vs→B≤w.heap.size→StOk s→Par w→ZH s=false→
 Calls Tryz.prog f #[.agg #[.int .i64 s.cf.semi,.int .i64 s.cf.large,.int .i64 s.cf.slots,.int .i64 s.cf.limit,.bool s.sec,vw,.int .i64 s.top,vt,vf,vs]] w fun e w'=> ∃un ur js v,e=.returned (.tuple #[.agg #[un,ur],v,.int .i64 (obE s)])∧RdG w' w'.heap.size (liG s) un ur js∧Sl w' w'.heap.size 1 v (obL s).length (i64s (obL s))∧Only nob w w'
def ZlX (f:FuncId):Prop:= ∀(s:St) (vw vt vf vs:Value) (B:Nat) (w:World),Rd w B s vw vt vf vs→B≤w.heap.size→StOk s→Par w→ZH s=false→
 Calls Tryz.prog f #[.agg #[.int .i64 s.cf.semi,.int .i64 s.cf.large,.int .i64 s.cf.slots,.int .i64 s.cf.limit,.bool s.sec,vw,.int .i64 s.top,vt,vf,vs]] w fun e w'=> ∃v,e=.returned (.tuple #[v,.int .i64 (obE s)])∧Sl w' w'.heap.size 2 v (liV s).length (spc (liV s))∧Only nob w w'
noncomputable def lvN (s:St):Int:=if ZT s=0 then((ZbB (liG s)).length:Int) else 0
noncomputable def lvA (s:St):Int:=if ZT s=0 then Zhy (liG s) (ZQ (liG s) s.cf.limit 0 1) else 0
noncomputable def lvB (s:St):Int:=if ZT s=0 then Zhy (liG s) (ZY (liG s) s.cf.limit 0 1) else 0
noncomputable def lvF (s:St):Int:=if ZT s=0 then wrap64 (ZiR (liG s) (ZQ (liG s) s.cf.limit 0 1)+ZiR (liG s) (ZY (liG s) s.cf.limit 0 1)) else 0
def ZrZ (f:FuncId):Prop:= ∀(s:St) (vw vt vf vs:Value) (B:Nat) (w:World),Rd w B s vw vt vf vs→B≤w.heap.size→StOk s→Par w→ZH s=false→
 Calls Tryz.prog f #[.agg #[.int .i64 s.cf.semi,.int .i64 s.cf.large,.int .i64 s.cf.slots,.int .i64 s.cf.limit,.bool s.sec,vw,.int .i64 s.top,vt,vf,vs]] w fun e w'=>e=.returned (.tuple #[.int .i64 (lvN s),.int .i64 (lvA s),.int .i64 (lvB s),.int .i64 (lvF s),.int .i64 (obE s)])∧Only nob w w'
noncomputable def ZcW (a b:St):Bool:=decide (ZT a=0)&&(decide (ZT b=0)&&ZbU (liG a) (liG b))
def Zpp (f:FuncId):Prop:= ∀(s t:St) (vw vt vf vs uw ut uf us:Value) (B:Nat) (w:World),Rd w B s vw vt vf vs→Rd w B t uw ut uf us→B≤w.heap.size→StOk s→StOk t→Par w→ZH s=false→ZH t=false→
 Calls Tryz.prog f #[.agg #[.int .i64 s.cf.semi,.int .i64 s.cf.large,.int .i64 s.cf.slots,.int .i64 s.cf.limit,.bool s.sec,vw,.int .i64 s.top,vt,vf,vs],.agg #[.int .i64 t.cf.semi,.int .i64 t.cf.large,.int .i64 t.cf.slots,.int .i64 t.cf.limit,.bool t.sec,uw,.int .i64 t.top,ut,uf,us]] w fun e w'=>e=.returned (.bool (ZcW s t))∧Only nob w w'
theorem Zpm {s:St} (h:ZT s=0):lvN s=((ZbB (liG s)).length:Int)∧lvA s=Zhy (liG s) (ZQ (liG s) s.cf.limit 0 1)∧lvB s=Zhy (liG s) (ZY (liG s) s.cf.limit 0 1)∧lvF s=wrap64 (ZiR (liG s) (ZQ (liG s) s.cf.limit 0 1)+ZiR (liG s) (ZY (liG s) s.cf.limit 0 1)):=
 ⟨if_pos h,if_pos h,if_pos h,if_pos h⟩
theorem Zs3 {s:St} (h: ¬ZT s=0):lvN s=0∧lvA s=0∧lvB s=0∧lvF s=0:=⟨if_neg h,if_neg h,if_neg h,if_neg h⟩
theorem Zfz {s t:St} (h:ZT s=0) (k:ZT t=0):ZcW s t=ZbU (liG s) (liG t):=by unfold ZcW;rw[decide_eq_true h,decide_eq_true k];rfl
theorem Ze2 {s t:St} (h: ¬ZT s=0∨ ¬ZT t=0):ZcW s t=false:=by
 unfold ZcW;rcases h with h|h
 · rw[decide_eq_false h];rfl
 · rw[decide_eq_false h];simp
structure LiC:Prop where
 lift:Zrs 8
 values:ZlX 10
 live:ZrZ 12
 alike:Zpp 17
def AwL19:Prop:= ∀w:World,Par w→Calls Tryz.prog 7 #[] w fun e w'=>e=.returned (.bool true)∧Only nob w w'
theorem ZiU {s:St} (hok:StOk s) (hL:ZH s=false):ZcW s s=decide (ZT s=0):=by
 by_cases h:ZT s=0
 · rw[Zfz h h,Zk1,Zpn h hok (by have:=Zc0 (ZE.1 h) hL;omega),decide_eq_true h]
 · rw[Ze2 (.inl h),decide_eq_false h]
end Go.Proofs.YteieocddfnlmdaaGreatDoor
