/- Package canon: Match, by Alike and two Breadths. A heap as a graph, in plain words: it may be, it has all wor The document's own answer for layer 19: a heap as a graph. ( Package lift: where each place stands, as a map of the call' -/
import Derived.Test.YtknoncenblehkaaGreatDoorF34
import Derived.Test.YtknoncenblehkaaGreatDoorF35
import Derived.Test.YtknoncenblehkaaGreatDoorF21
set_option maxRecDepth 100000
set_option maxHeartbeats 32000000
set_option linter.unusedSimpArgs false
set_option linter.unusedVariables false
namespace Go.Proofs.YtknoncenblehkaaGreatDoor
section
open Go.RowKit Go.Lib
def Zl7 (n:Nat) (F T:List Int) (k:Nat):List Int:=(List.range n).map fun i:Nat=>if(i:Int)∈F.take k then T.getD (plc F (i:Int)).toNat (-1) else -1
theorem Zkp {n k:Nat} {F T:List Int}:(Zl7 n F T k).length=n:=by simp[Zl7]
theorem Zm1 {n:Nat} {F T:List Int}:Zl7 n F T 0=List.replicate n (-1):=by
 unfold Zl7;apply List.ext_getElem?;intro i;rw[List.getElem?_map,List.getElem?_replicate];by_cases h:i<n
 · rw[List.getElem?_range h,if_pos h];rfl
 · rw[List.getElem?_eq_none (by simpa using h),if_neg h];rfl
theorem Zph {a b:Gr}:Zl7 a.nd.length (flatL a 0) (flatL b 0) (flatL a 0).length=toL a b:=by
 unfold Zl7 toL;rw[List.take_length]
theorem ZmX {n k:Nat} {F T:List Int} (hF:F.Nodup) (hlen:F.length=T.length) {m:Nat} {y:Int} (h1:F[k]? =some (m:Int)) (h2:T[k]? =some y) (hm:m<n):(Zl7 n F T k).set m y=Zl7 n F T (k+1):=by
 have hk:=(Yk.1 h1).1;have hp:plc F (m:Int)=k:=Zhl hF h1;unfold Zl7;apply List.ext_getElem?;intro i;rw[List.getElem?_set,List.length_map,List.length_range,List.getElem?_map,List.getElem?_map];by_cases e:m=i
 · subst e
   rw[if_pos rfl,if_pos hm,List.getElem?_range hm];have hmem:(m:Int)∈F.take (k+1):=Yo (i:=k) (by rw[List.getElem?_take_of_lt (Nat.lt_succ_self k)];exact h1);show some y=some (if(m:Int)∈F.take (k+1) then _ else _);rw[if_pos hmem,hp,show((k:Int)).toNat=k from rfl,Yn,h2];rfl
 · rw[if_neg e]
   by_cases hi:i<n
   · rw[List.getElem?_range hi]
     show some (if(i:Int)∈F.take k then _ else _)=some (if(i:Int)∈F.take (k+1) then _ else _)
     have hiff:(i:Int)∈F.take k↔(i:Int)∈F.take (k+1):=by
      rw[List.take_add_one,h1,Yr];constructor
      · exact .inl
      · rintro(h|h)
        · exact h
        · have:(i:Int)=m:=by simpa using h
          omega
     by_cases hmem:(i:Int)∈F.take k
     · rw[if_pos hmem,if_pos (hiff.1 hmem)]
     · rw[if_neg hmem,if_neg (fun h=>hmem (hiff.2 h))]
   · rw[List.getElem?_eq_none (by simpa using hi)]
     rfl
theorem Znt (w:World) (x:Value): ∃X,w.alloc (.cells #[x] 3)=X∧Hid (Only nob w X∧Blk X w.heap.size 3 #[x]):=⟨_,rfl,ZZ ⟨(Only.refl nob w).alloc _,Blk.new w _ _⟩⟩
theorem ZiH:ZtR 18:=by
 intro a b an ar bn br hs js B W hra hrb hB hfa hfb hna hta hnb htb;obtain⟨A,ca,rfl,hac,hcm⟩:=hra.nodes.form;obtain⟨A',cb,rfl,hbc,hcm'⟩:=hrb.nodes.form;obtain⟨Ar,cra,rfl,hrac,hrcm⟩:=hra.roots.form;obtain⟨Br,crb,rfl,hrbc,hrcm'⟩:=hrb.roots.form;obtain⟨V,hV,HVB⟩:=Znm W (.slice A a.nd.length ca) (.slice Ar a.rt.length cra) (.slice A' b.nd.length cb) (.slice Br b.rt.length crb);have HVE:=ZZ hV;have HA:=ZZ (Ze8 a b _ _ _ _ hs js B V (hra.only HVB.out.1 hB) (hrb.only HVB.out.1 hB) (Yi hB HVB.out.1.size) hfa hfb hna hta hnb htb);have HF1:=ZZ (fun (W':World) (o:Only nob W W')=>Zeq a _ _ hs B W' (hra.only o hB) (Yi hB o.size) hfa ⟨by omega,by omega⟩);have HF2:=ZZ (fun (W':World) (o:Only nob W W')=>Zeq b _ _ js B W' (hrb.only o hB) (Yi hB o.size) hfb ⟨by omega,by omega⟩);have HC:=ZZ (show ∀W':World,Only nob V W'→W'.cell? ⟨W.heap.size,0,none⟩=some (.slice A a.nd.length ca)∧W'.cell? ⟨W.heap.size,1,none⟩=some (.slice Ar a.rt.length cra)∧W'.cell? ⟨W.heap.size+1,0,none⟩=some (.slice A' b.nd.length cb)∧W'.cell? ⟨W.heap.size+1,1,none⟩=some (.slice Br b.rt.length crb) from fun W' o=>⟨(HVB.out.2.1.keep o id).cell 0,(HVB.out.2.1.keep o id).cell 1,(HVB.out.2.2.keep o id).cell 0,(HVB.out.2.2.keep o id).cell 1⟩);have HNA:=ZZ (show a.nd.length≤1000000 by omega);have HNA60:=ZZ hna;have HAL:=ZZ (Zee (a:=a) (b:=b));have HML:=ZZ (show ZhD a b=if Za6 a b=true then toL a b else[] from rfl);have HOV:=ZZ HVB.out.1
 obtain⟨q,hq⟩: ∃q,q=Za6 a b:=⟨_,rfl⟩
 rw[← hq] at HA HAL HML ⊢
 obtain⟨M,hM⟩: ∃M,M=ZhD a b:=⟨_,rfl⟩
 rw[← hM] at HML ⊢;obtain⟨c0,c1,e0,e1⟩:=HC.out V (Only.refl nob V);clear hV hra hrb hB hfa hfb hna hta hnb htb hq hM
 go_enter Tryz.func18,Tryz.ntmps18
 go_upto_region 1 with fail
 rw[HVE.out]
 go_wp2_with fail
 go_at_call 17;refine HA.out.mono ?_;rintro e w1 ⟨rfl,o1⟩;have O1:=ZZ o1;clear o1 c0 c1 e0 e1
 cases q with
 |false=>
  have HM0:=ZZ (show M=[] by rw[HML.out];rfl);have OW:=ZZ (HOV.out.trans O1.out);go_wp2;go_ret2;exact⟨.slice none 0 0,rfl,by rw[HM0.out];exact OwR.nil_,OW.out⟩
 |true=>
  have HM1:=ZZ (show M=toL a b by rw[HML.out];rfl);have HOK:=ZZ (HAL.out.1 rfl);have HLEN:=ZZ (ZnO HOK.out.1 HOK.out.2.1 HOK.out.2.2).1;have HORD:=ZZ (Zr.1 (Zd3 HOK.out.1));have HEND:=ZZ (Zph (a:=a) (b:=b));rw[← HM1.out] at HEND;have HZ:=ZZ (Zm1 (n:=a.nd.length) (F:=flatL a 0) (T:=flatL b 0));have HMLEN:=ZZ (show M.length=a.nd.length by rw[← HEND.out];exact Zkp);have HF60:=ZZ (ZgE a)
  obtain⟨F,hF⟩: ∃F,F=flatL a 0:=⟨_,rfl⟩
  obtain⟨T,hT⟩: ∃T,T=flatL b 0:=⟨_,rfl⟩
  obtain⟨E1,hE1⟩: ∃z,z=Za3 a:=⟨_,rfl⟩
  obtain⟨E2,hE2⟩: ∃z,z=Za3 b:=⟨_,rfl⟩
  rw[← hE1, ← hF] at HF1;rw[← hE2, ← hT] at HF2;rw[← hF, ← hT] at HLEN HZ;rw[← hF, ← hT] at HEND;rw[← hF] at HORD HF60;clear hF hT hE1 hE2;obtain⟨c0,c1,e0,e1⟩:=HC.out w1 O1.out
  go_wp2_with fail
  go_at_call 46;refine(HF1.out w1 (HOV.out.trans O1.out)).mono ?_;rintro e w2 ⟨v1,rfl,h1,o⟩;have R1:=ZZ h1;obtain⟨A1,k1,rfl, -, -⟩:=h1.form;have O2:=ZZ (O1.out.trans o);clear h1 o c0 c1 e0 e1;obtain⟨c0,c1,e0,e1⟩:=HC.out w2 O2.out
  go_wp2_with fail
  go_at_call 46;refine(HF2.out w2 (HOV.out.trans O2.out)).mono ?_;rintro e w3 ⟨v2,rfl,h2,o⟩;have R2:=ZZ h2.sl;have R1:=ZZ (R1.out.only o fun _ _ h=>h);obtain⟨A2,k2,rfl, -, -⟩:=h2.form;have O3:=ZZ (O2.out.trans o);clear h2 o c0 c1 e0 e1;obtain⟨X,hX,HBX⟩:=Znt w3 (.int .i64 (-1));have HX:=ZZ hX;have OX:=ZZ (O3.out.trans HBX.out.1);have HRP:=ZZ (ZpQ (-1) w3.heap.size a.nd.length HNA.out X HBX.out.2);obtain⟨c0,c1,e0,e1⟩:=HC.out X OX.out;have S1:=ZZ (R1.out.only HBX.out.1 fun _ _ h=>h).sl;have S2:=ZZ (R2.out.below (HBX.out.1.below (Yj _) fun _ h=>h.elim))
  obtain⟨p,hp⟩: ∃p,p=X.heap.size:=⟨_,rfl⟩
  rw[← hp] at HRP;have HP:=ZZ hp;clear hX e0 e1 hp
  go_upto_region 5 with fail
  go_wp2_with (with_reducible rw[HX.out])
  go_at_call 47;refine HRP.out.mono ?_;rintro e w4 ⟨rfl,hrow,o4⟩;have HROW:=ZZ (show w4.ownsRow p 3 1 (.slice (some ⟨p,0,none⟩) a.nd.length a.nd.length) a.nd.length (i64s (Zl7 a.nd.length F T 0)) by rw[HZ.out];exact hrow);have O4:=ZZ o4;clear hrow o4 c0 c1
  go_wp2_with fail
  go_loopw [11,12,34] (fun _ _ vi wr=> ∃k:Nat,k≤F.length∧vi=.int .i64 k∧Hid (wr.ownsRow p 3 1 (.slice (some ⟨p,0,none⟩) a.nd.length a.nd.length) a.nd.length (i64s (Zl7 a.nd.length F T k)))∧Hid (Only nob X wr)) (fun _ _ vi _=>F.length - (RowKit.intOf vi).toNat)
  case atStart=>exact⟨0,Yu _,rfl,HROW,O4⟩
  case round=>
   obtain⟨k,hk,rfl,HR,HO⟩:=hrel;have hF60:F.length≤1000:=Yi HF60.out HNA60.out;by_cases hlt:k<F.length
   · obtain⟨z,hz⟩: ∃z,F[k]? =some z:=⟨_,Ya hlt⟩
     have hkT:k<T.length:=by rw[← HLEN.out];exact hlt
     obtain⟨y,hy⟩: ∃y,T[k]? =some y:=⟨_,Ya hkT⟩
     have hzr:=HORD.out.1 z (Yo hz)
     obtain⟨m,rfl⟩: ∃m:Nat,z=(m:Int):=⟨z.toNat,by omega⟩
     have hm:m<a.nd.length:=by omega
     obtain⟨bF,oF,rfl, -,f0⟩:=ZaO S1.out (HO.out.below (Yj _) fun _ h=>h.elim) hz;obtain⟨bT,oT,rfl, -,t0⟩:=ZaO S2.out (HO.out.below HBX.out.1.size fun _ h=>h.elim) hy;have HST:=ZZ (ZmX HORD.out.2 HLEN.out hz hy hm)
     obtain⟨u,hu⟩: ∃u,(Zl7 a.nd.length F T k)[m]? =some u:=⟨_,Ya (by rw[Zkp];exact hm)⟩
     have g0:wr.cell? ⟨p,m,none⟩=some (.int .i64 u):=(HR.out.cellAt m (by omega)).trans (ZeG hu);obtain⟨cs,hblk⟩:=ZaW HR.out (k:=p) rfl;have fz0:=hblk.free m;have hset:=Zab HR.out m (by omega) (.int .i64 y);rw[ZlY,HST.out] at hset;have HSET:=ZZ hset;have ONX:=ZZ (HO.out.setCell (p:=⟨p,m,none⟩) (fun h=>absurd h (by rw[HP.out];exact Nat.lt_irrefl _)) (.int .i64 y));clear hset hblk hu hy hz hzr HEND;go_wp2
     go_roundw
     case rel=>exact⟨k+1,by omega,by go_num,HSET,ONX⟩
     case measure=>simp[RowKit.intOf];omega
   · obtain rfl:k=F.length:=by omega
     have HF9:=ZZ (show OwR wr W.heap.size 3 (.slice (some ⟨p,0,none⟩) a.nd.length a.nd.length) M.length (i64s M) by
      rw[HMLEN.out, ← HEND.out]
      exact(OwR.of_own HR.out).more (by rw[HP.out];exact(HOV.out.trans OX.out).size))
     have O9:=ZZ ((HOV.out.trans OX.out).trans HO.out);go_wp2;go_ret2;exact⟨_,rfl,HF9.out,O9.out⟩
end
section
open Go.RowKit
def valL (all:List Int) (x:Nat):Sp:=if dK x=2∧dX x∈all then(2,plc all (dX x)) else(dK x,dX x)
def Zuu (all:List Int) (l:List Nat) (p:Int):List Sp:=(List.range (ohF l p).toNat).map fun k:Nat=>valL all (wd l (p+1+(k:Nat)).toNat)
def Zut (l:List Nat) (p:Int):List Nat:=(List.range (ohR l p).toNat).map fun k:Nat=>wd l (p+1+ohF l p+(k:Nat)).toNat
def liN (all:List Int) (l:List Nat) (p:Int):Nd:=⟨ohK l p,Zuu all l p,Zut l p⟩
def Zhx (sl:List Slt):List Slt:=sl.filter (·.1)
def ZmL (all:List Int) (sl:List Slt):List Sp:=(Zhx sl).map fun t=>valL all t.2.2
def ZtA (x:Nat):Sp:=(dK x,dX x)
noncomputable def liG (s:St):Gr:=if Zbh s=0 then⟨s.objs.map (liN s.objs s.ws),ZmL s.objs s.sl⟩ else⟨[],[]⟩
theorem Zm7 {s:St} (h:Zbh s=0):liG s=⟨s.objs.map (liN s.objs s.ws),ZmL s.objs s.sl⟩:=if_pos h
theorem Ztw {s:St} (h:Zbh s≠0):liG s=⟨[],[]⟩:=if_neg h
theorem ZmG {l:List Int} {z:Int}:Zbi l z=true↔z∈l:=by
 unfold Zbi;simp
theorem ZuX {l:List Nat} (h:ZaM l) (p:Nat):wd l p<18446744073709551616:=by
 unfold wd;rw[Yn]
 cases e:l[p]? with
 |none=>decide
 |some x=>exact h x (Yo e)
section
variable {s:St}
theorem Zh9 (h:May15 s) {p:Int} (hp:p∈s.objs) {k:Nat} (hk:k<(ohF s.ws p).toNat):leads s.objs (wd s.ws (p+1+(k:Nat)).toNat)=true:=by
 have h8:=h.fields;unfold r8 at h8
 have:=List.all_eq_true.1 h8 p hp
 unfold ZcI at this;exact List.all_eq_true.1 this k (List.mem_range.2 hk)
theorem ZiJ (h:May15 s) {t:Slt} (ht:t∈Zhx s.sl):leads s.objs t.2.2=true:=by
 obtain⟨h1,h2⟩:=List.mem_filter.1 ht;have h9:=h.leads;unfold r9 at h9
 have:=List.all_eq_true.1 h9 t h1
 rw[h2] at this;simpa using this
theorem ZsE {l:List Slt} (h:Zkq l) {t:Slt} (ht:t∈Zhx l):t.2.2<18446744073709551616:=by
 have:=(h t (List.mem_filter.1 ht).1).2.2
 exact this
theorem Zo7 (l:List Slt):(Zhx l).length≤l.length:=List.length_filter_le _ _
end
end
section
open Go.RowKit Go.Lib
theorem ZdS {W:World} {gb b s n:Nat} {E t:TypeId} {v:Value} {x cs} (hb:Blk W gb t cs) (h:W.ownsRow b E s v n x) (hE:t≠E): ∀j,v.ownBlock=some j→ ¬isb gb j:=fun j e e2=>by
 unfold isb at e2;subst e2;exact blk_own_ne16 hb h hE e
theorem ZsG {l:List Nat} {p:Nat} (h:p<l.length):l[p]? =some (wd l p):=by
 unfold wd;rw[Yn,Ya h];rfl
theorem Zbs {α:Type} {l:List α} {j:Nat} {x:α} (h:l[j]? =some x):l.take (j+1)=l.take j++[x]:=by
 rw[List.take_add_one,h];rfl
end
section
open Go.RowKit Go.Lib Go.Maps Go.ChangeMaps
theorem Zok (w:World):(zeroValue 3).run Tryz.prog w=.ok (.int .i64 0) w:=by kernel_rfl
def Zfx (w:World) (mp n:Nat) (K:List Int):Prop:=
 ∃D:DataW Value,w.ownsMap Tryz.prog 3 ZoQ mp n D∧ ∀p:Int,I64 p→(has D (.int .i64 p)=decide (p∈K)∧(p∈K→ ∀z,D.atKey (.int .i64 p) z=.held (.int .i64 (plc K p))))
theorem Zfx.keep {F:Nat→Prop} {w w':World} {mp n:Nat} {K:List Int} (h:Zfx w mp n K) (o:Only F w w') (hn: ¬F mp):Zfx w' mp n K:=by
 obtain⟨D,⟨es,clock,hb,r⟩,h2⟩:=h;have hlt:mp<w.heap.size:=(Yv.1 hb).1;exact⟨D,⟨es,clock,(o.block mp hlt hn).trans hb,r⟩,h2⟩
theorem Zfx.new (w:World):Zfx (w.alloc (.map #[] 0)) w.heap.size 0 []:=
 ⟨_,World.ownsMap_made w _ _ _,fun p _=>⟨rfl,fun h=>by cases h⟩⟩
theorem Zfx.put {w:World} {mp n:Nat} {K:List Int} (h:Zfx w mp n K) (p:Int) (hp:I64 p) (hK:p∉K) (hn:n<1000000):
 ∃w',(Instr.mapUpdate 85 (.map (some mp)) (.int .i64 p) (.int .i64 (K.length:Int))).run Tryz.prog w=.ok () w'∧Zfx w' mp (n+1) (K++[p])∧Only (isb mp) w w':=by
 obtain⟨D,h,h2⟩:=h;obtain⟨w',e,h',ht⟩:=h.store Zhh Tryz.underlying85 (by unfold maxLen;omega) (Zeh hp) (show ZoQ (.int .i64 (K.length:Int))=some (.held (.int .i64 (K.length:Int)),[]) from rfl);refine⟨w',e,⟨_,h',fun q hq=>?_⟩,Zfd ht⟩;by_cases hpq:p=q
 · subst hpq
   rw[has_put_same h.isMap (ZgJ p)];refine⟨by simp,fun _ z=>?_⟩;rw[ZdK hK];exact atKey_put_same h.isMap (ZgJ p) _ _
 · have hne:(Lit.int .i64 q)≠(.int .i64 p):=fun e=>hpq (by injection e with _ e;exact e.symm)
   rw[has_put_other hne];obtain⟨h3,h4⟩:=h2 q hq
   have hb:(q∈K++[p])↔q∈K:=by
    rw[Yr,Yt];exact⟨fun h=>h.elim id fun e=>absurd e.symm hpq,.inl⟩
   refine⟨by rw[h3];exact decide_eq_decide.2 hb.symm,fun h z=>?_⟩;rw[atKey_put_other hne,ZdM (hb.1 h)];exact h4 (hb.1 h) z
theorem Zfx.at_ {w:World} {mp n:Nat} {K:List Int} (h:Zfx w mp n K) (p:Int) (hp:I64 p) (hk:p∈K):
 (Instr.lookup 85 (.map (some mp)) (.int .i64 p) false).run Tryz.prog w=.ok (.int .i64 (plc K p)) w:=by
 obtain⟨D,h,h2⟩:=h;obtain⟨v,ps,e,hv⟩:=h.lookup Zhh Tryz.underlying85 (Zok w) (show ZoQ (.int .i64 0)=some (.held (.int .i64 0),[]) from rfl) (Zeh hp);obtain⟨h3,h4⟩:=h2 p hp;unfold ZoQ at hv;simp only[Option.some.injEq,Prod.mk.injEq] at hv;rw[h4 hk] at hv
 have:v=.int .i64 (plc K p):=by simpa using hv.1
 rw[← this];exact e
theorem Zfx.ne_blk {w:World} {mp n g:Nat} {K:List Int} {t:TypeId} {cs:Array Value} (h:Zfx w mp n K) (b:Blk w g t cs):g≠mp:=by
 rintro rfl;obtain⟨D,⟨es,clock,hb, -⟩, -⟩:=h;unfold Blk at b;rw[b] at hb
 cases hb
theorem ZsP (A Z:List Sp) (x y:Sp):((spc (A++x::Z)).set (A.length * 2) (.int .i64 y.1)).set (A.length * 2+1) (.int .i64 y.2)=spc (A++y::Z):=by
 have e: ∀z:Sp,spc (A++z::Z)=spc A++.int .i64 z.1::.int .i64 z.2::spc Z:=fun z=>by simp[spc]
 have hl:=Zav A;rw[e,e, ← hl,List.set_append_right _ _ (Yj _),Nat.sub_self,Yd,List.set_append_right _ _ (by omega),show(spc A).length+1 - (spc A).length=1 by omega,Yc,Yd]
def ZcX (L:List Sp) (k n:Nat):List Sp:=L.take k++List.replicate (n - k) (0,0)
theorem ZpO {L:List Sp} {k n:Nat} {y:Sp} (hy:L[k]? =some y) (hn:L.length=n):((spc (ZcX L k n)).set (k * 2) (.int .i64 y.1)).set (k * 2+1) (.int .i64 y.2)=spc (ZcX L (k+1) n):=by
 have hk:=(Yk.1 hy).1
 have hl:(L.take k).length=k:=by rw[List.length_take];omega
 obtain⟨r,hr⟩: ∃r,n - k=r+1:=⟨n - k - 1,by omega⟩
 unfold ZcX;rw[hr,List.replicate_succ];have h:=ZsP (L.take k) (List.replicate r (0,0)) (0,0) y;rw[hl] at h;rw[h,Zbs hy,List.append_assoc,show n - (k+1)=r by omega];rfl
theorem Zo3 {L:List Sp} {n:Nat} (hn:L.length=n):ZcX L n n=L:=by
 unfold ZcX;rw[Nat.sub_self, ← hn,List.take_length];simp
theorem Ziv (n:Nat):madeCells (Value.agg #[.int .i64 0,.int .i64 0]).cells (n * 2)=(spc (ZcX [] 0 n)).toArray:=by
 have hf:ZcX [] 0 n=List.replicate n (0,0):=by unfold ZcX;simp
 rw[hf]
 have hl:(spc (List.replicate n ((0,0):Sp))).length=n * 2:=by rw[Zav,List.length_replicate]
 apply Array.ext
 · rw[size_madeCells];simp[hl]
 · intro i h1 h2
   rw[size_madeCells] at h1
   obtain⟨q,hq,hr⟩: ∃q,q<n∧(i=q * 2∨i=q * 2+1):=⟨i / 2,by omega,by omega⟩
   obtain⟨e0,e1⟩:=Zkv (l:=List.replicate n ((0,0):Sp)) (k:=q) (x:=(0,0)) (by rw[List.getElem?_replicate,if_pos hq])
   have key: ∀(i:Nat) (y:Value) (h2:i<(spc (List.replicate n ((0,0):Sp))).toArray.size),(spc (List.replicate n ((0,0):Sp)))[i]? =some y→(spc (List.replicate n ((0,0):Sp))).toArray[i]=y:=fun i y h2 h=>by
    simpa using(Yk.1 h).2
   rcases hr with rfl|rfl
   · rw[key _ _ h2 e0]
     simp only[madeCells,Array.getElem_map,Array.getElem_range];rw[show(Value.agg #[.int .i64 0,.int .i64 0]).cells.size=2 from rfl,show q * 2 % 2=0 by omega];rfl
   · rw[key _ _ h2 e1]
     simp only[madeCells,Array.getElem_map,Array.getElem_range];rw[show(Value.agg #[.int .i64 0,.int .i64 0]).cells.size=2 from rfl,show(q * 2+1) % 2=1 by omega];rfl
theorem Zi6 (n:Nat) (hn:n≤1000000) (w:World): ∃W,(Instr.makeSlice 25 (.int .i64 (n:Int)) (.int .i64 (n:Int))).run Tryz.prog w=.ok (.slice (some ⟨w.heap.size,0,none⟩) n n) W∧Only nob w W∧W.ownsRow w.heap.size 59 2 (.slice (some ⟨w.heap.size,0,none⟩) n n) n (spc (ZcX [] 0 n)):=by
 obtain⟨i0,hi0,hz0,hz1,hz2⟩:=info_parts Zdp;obtain⟨W,h1,h2,h3⟩:=run_make_full (P:=Tryz.prog) w w.heap.size 25 59 i0 _ 2 Tryz.underlying25 hi0 hz0 hz1 .i64 .i64 n (by rw[hz2];omega) (by unfold maxLen;omega) (Yj _);refine⟨W,h1,⟨h3.os,h3.tape,h3.output,h3.size,fun k hk _=>h3.block k hk (by simp)⟩,?_⟩
 have e:(madeCells (Value.agg #[.int .i64 0,.int .i64 0]).cells (n * 2)).toList=spc (ZcX [] 0 n):=by rw[Ziv]
 rw[e] at h2;exact h2
theorem ZuW {h:Int→Hd} (H:ZoT h) (top a:Int) (hok: ∀y∈tr h top a,y.e=0):(ats (tr h top a)).Pairwise (· < ·)∧ ∀p∈ats (tr h top a),a≤p∧p<top:=by
 revert hok;refine ZoK H top (P:=fun a=>(∀y∈tr h top a,y.e=0)→(ats (tr h top a)).Pairwise (· < ·)∧ ∀p∈ats (tr h top a),a≤p∧p<top) ?_ ?_ ?_ a
 · intro a ha _
   rw[Zh4 ha];exact⟨List.Pairwise.nil,fun _ h=>by cases h⟩
 · intro a ha hs hok
   rw[ZhH ha hs] at hok
   have:=hok _ (Yt.2 rfl)
   rw[ZfX] at this;exact absurd this hs
 · intro a ha hs ih hok
   rw[ZlV H ha hs] at hok ⊢;have h1:=ZcM H (ZbE hs).1;obtain⟨i1,i2⟩:=ih fun y hy=>hok y (List.mem_cons_of_mem _ hy);show(((item h top a).at_::ats (tr h top (a+osz h a))).Pairwise (· < ·))∧ ∀p∈(item h top a).at_::ats (tr h top (a+osz h a)),a≤p∧p<top;rw[Zba,List.pairwise_cons];refine⟨⟨fun p hp=>?_,i1⟩,fun p hp=>?_⟩
   · have:=i2 p hp;omega
   · rcases List.mem_cons.1 hp with rfl|hp
     · omega
     · have:=i2 p hp;omega
theorem Zlh {s:St} (h:May15 s):s.objs.Nodup:=by
 have h6:=h.big;unfold r6 at h6;rw[Bool.and_eq_true,decide_eq_true_iff] at h6;obtain⟨hw,hp,ha, -⟩:=h6.1;have hsz: ∀x∈s.tb,1≤x.2:=fun x hx=>(hw x hx).1.2.1;have ht:=of_decide_eq_true h.top;have hb:=ZP h.ok s.sec;obtain⟨u1,u2⟩:=ZuW (Zc1 s.ws) s.top s.frm.1 (by rw[← h.steps_tr];exact h.steps_ok)
 have he:s.smalls=ats (tr (hAr s.ws) s.top s.frm.1):=by rw[h.smalls_ats,h.steps_tr]
 unfold St.objs;rw[List.nodup_append];refine⟨?_,?_,?_⟩
 · rw[he]
   exact u1.imp fun h=>by omega
 · unfold List.Nodup
   rw[List.pairwise_map];have h2:=Zlu hp ha;refine List.Pairwise.imp_of_mem ?_ h2;intro x y hx _ hxy
   have:=hsz x hx
   omega
 · intro p hp q hq
   rw[he] at hp;have hp2:=u2 p hp;obtain⟨x,hx,rfl⟩:=List.mem_map.1 hq;have h1:=hw x hx;have h2:=hsz x hx;unfold Sp.within Sp.has Sp.ok Ze at h1;unfold St.frm at ht hp2
   split at h1 <;> simp only at h1 <;> omega
def ZkY (g:FuncId) (la:Array Value) (P:Nat→Prop) (f:Nat→Sp) (w:World):Prop:=
 (∀args w,(callFunc g args).run Tryz.prog w=.ok (.enter g args) w)∧ ∀x:Nat,P x→ ∀W:World,Only nob w W→Calls Tryz.prog g (#[.int .u64 (x:Nat)]++la) W fun e w'=>e=.returned (.agg #[.int .i64 (f x).1,.int .i64 (f x).2])∧Only nob W w'
theorem ZkY.on {g:FuncId} {la:Array Value} {P:Nat→Prop} {f:Nat→Sp} {w w':World} (h:ZkY g la P f w) (o:Only nob w w'):ZkY g la P f w':=⟨h.1,fun x hx W hW=>h.2 x hx W (o.trans hW)⟩
end
end Go.Proofs.YtknoncenblehkaaGreatDoor
