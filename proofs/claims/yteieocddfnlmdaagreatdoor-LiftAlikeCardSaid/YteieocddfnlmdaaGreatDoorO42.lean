/- Package lift: where each place stands, as a map of the call' Package lift: a word's value, the same in a graph, a row of Package lift: an object as a node. -/
import Derived.Test.YteieocddfnlmdaaGreatDoorO39
import Derived.Test.YteieocddfnlmdaaGreatDoorO23
set_option maxRecDepth 100000
set_option maxHeartbeats 32000000
set_option linter.unusedSimpArgs false
set_option linter.unusedVariables false
namespace Go.Proofs.YteieocddfnlmdaaGreatDoor
section
open Go.RowKit Go.Lib Go.Maps Go.ChangeMaps
theorem Znt (w:World):(zeroValue 3).run Tryz.prog w=.ok (.int .i64 0) w:=by kernel_rfl
def Zf4 (w:World) (mp n:Nat) (K:List Int):Prop:=
 ∃D:DataW Value,w.ownsMap Tryz.prog 3 ZpC mp n D∧ ∀p:Int,I64 p→(has D (.int .i64 p)=decide (p∈K)∧(p∈K→ ∀z,D.atKey (.int .i64 p) z=.held (.int .i64 (plc K p))))
theorem Zf4.keep {F:Nat→Prop} {w w':World} {mp n:Nat} {K:List Int} (h:Zf4 w mp n K) (o:Only F w w') (hn: ¬F mp):Zf4 w' mp n K:=by
 obtain⟨D,⟨es,clock,hb,r⟩,h2⟩:=h;have hlt:mp<w.heap.size:=(Yv.1 hb).1;exact⟨D,⟨es,clock,(o.block mp hlt hn).trans hb,r⟩,h2⟩
theorem Zf4.new (w:World):Zf4 (w.alloc (.map #[] 0)) w.heap.size 0 []:=
 ⟨_,World.ownsMap_made w _ _ _,fun p _=>⟨rfl,fun h=>by cases h⟩⟩
theorem Zf4.put {w:World} {mp n:Nat} {K:List Int} (h:Zf4 w mp n K) (p:Int) (hp:I64 p) (hK:p∉K) (hn:n<1000000):
 ∃w',(Instr.mapUpdate 66 (.map (some mp)) (.int .i64 p) (.int .i64 (K.length:Int))).run Tryz.prog w=.ok () w'∧Zf4 w' mp (n+1) (K++[p])∧Only (isb mp) w w':=by
 obtain⟨D,h,h2⟩:=h;obtain⟨w',e,h',ht⟩:=h.store Zir Tryz.underlying66 (by unfold maxLen;omega) (ZfS hp) (show ZpC (.int .i64 (K.length:Int))=some (.held (.int .i64 (K.length:Int)),[]) from rfl);refine⟨w',e,⟨_,h',fun q hq=>?_⟩,Zfs ht⟩;by_cases hpq:p=q
 · subst hpq
   rw[has_put_same h.isMap (ZhQ p)];refine⟨by simp,fun _ z=>?_⟩;rw[Zeq hK];exact atKey_put_same h.isMap (ZhQ p) _ _
 · have hne:(Lit.int .i64 q)≠(.int .i64 p):=fun e=>hpq (by injection e with _ e;exact e.symm)
   rw[has_put_other hne];obtain⟨h3,h4⟩:=h2 q hq
   have hb:(q∈K++[p])↔q∈K:=by
    rw[Yr,Yt];exact⟨fun h=>h.elim id fun e=>absurd e.symm hpq,.inl⟩
   refine⟨by rw[h3];exact decide_eq_decide.2 hb.symm,fun h z=>?_⟩;rw[atKey_put_other hne,Zev (hb.1 h)];exact h4 (hb.1 h) z
theorem Zf4.at_ {w:World} {mp n:Nat} {K:List Int} (h:Zf4 w mp n K) (p:Int) (hp:I64 p) (hk:p∈K):
 (Instr.lookup 66 (.map (some mp)) (.int .i64 p) false).run Tryz.prog w=.ok (.int .i64 (plc K p)) w:=by
 obtain⟨D,h,h2⟩:=h;obtain⟨v,ps,e,hv⟩:=h.lookup Zir Tryz.underlying66 (Znt w) (show ZpC (.int .i64 0)=some (.held (.int .i64 0),[]) from rfl) (ZfS hp);obtain⟨h3,h4⟩:=h2 p hp;unfold ZpC at hv;simp only[Option.some.injEq,Prod.mk.injEq] at hv;rw[h4 hk] at hv
 have:v=.int .i64 (plc K p):=by simpa using hv.1
 rw[← this];exact e
theorem Zf4.ne_blk {w:World} {mp n g:Nat} {K:List Int} {t:TypeId} {cs:Array Value} (h:Zf4 w mp n K) (b:Blk w g t cs):g≠mp:=by
 rintro rfl;obtain⟨D,⟨es,clock,hb, -⟩, -⟩:=h;unfold Blk at b;rw[b] at hb
 cases hb
theorem Zsr (A Z:List Sp) (x y:Sp):((spc (A++x::Z)).set (A.length * 2) (.int .i64 y.1)).set (A.length * 2+1) (.int .i64 y.2)=spc (A++y::Z):=by
 have e: ∀z:Sp,spc (A++z::Z)=spc A++.int .i64 z.1::.int .i64 z.2::spc Z:=fun z=>by simp[spc]
 have hl:=Za8 A;rw[e,e, ← hl,List.set_append_right _ _ (Yj _),Nat.sub_self,Yd,List.set_append_right _ _ (by omega),show(spc A).length+1 - (spc A).length=1 by omega,Yc,Yd]
def ZdK (L:List Sp) (k n:Nat):List Sp:=L.take k++List.replicate (n - k) (0,0)
theorem ZqD {L:List Sp} {k n:Nat} {y:Sp} (hy:L[k]? =some y) (hn:L.length=n):((spc (ZdK L k n)).set (k * 2) (.int .i64 y.1)).set (k * 2+1) (.int .i64 y.2)=spc (ZdK L (k+1) n):=by
 have hk:=(Yk.1 hy).1
 have hl:(L.take k).length=k:=by rw[List.length_take];omega
 obtain⟨r,hr⟩: ∃r,n - k=r+1:=⟨n - k - 1,by omega⟩
 unfold ZdK;rw[hr,List.replicate_succ];have h:=Zsr (L.take k) (List.replicate r (0,0)) (0,0) y;rw[hl] at h;rw[h,Z1 hy,List.append_assoc,show n - (k+1)=r by omega];rfl
theorem ZpO {L:List Sp} {n:Nat} (hn:L.length=n):ZdK L n n=L:=by
 unfold ZdK;rw[Nat.sub_self, ← hn,List.take_length];simp
theorem Zkm (n:Nat):madeCells (Value.agg #[.int .i64 0,.int .i64 0]).cells (n * 2)=(spc (ZdK [] 0 n)).toArray:=by
 have hf:ZdK [] 0 n=List.replicate n (0,0):=by unfold ZdK;simp
 rw[hf]
 have hl:(spc (List.replicate n ((0,0):Sp))).length=n * 2:=by rw[Za8,List.length_replicate]
 apply Array.ext
 · rw[size_madeCells];simp[hl]
 · intro i h1 h2
   rw[size_madeCells] at h1
   obtain⟨q,hq,hr⟩: ∃q,q<n∧(i=q * 2∨i=q * 2+1):=⟨i / 2,by omega,by omega⟩
   obtain⟨e0,e1⟩:=ZkF (l:=List.replicate n ((0,0):Sp)) (k:=q) (x:=(0,0)) (by rw[List.getElem?_replicate,if_pos hq])
   have key: ∀(i:Nat) (y:Value) (h2:i<(spc (List.replicate n ((0,0):Sp))).toArray.size),(spc (List.replicate n ((0,0):Sp)))[i]? =some y→(spc (List.replicate n ((0,0):Sp))).toArray[i]=y:=fun i y h2 h=>by
    simpa using(Yk.1 h).2
   rcases hr with rfl|rfl
   · rw[key _ _ h2 e0]
     simp only[madeCells,Array.getElem_map,Array.getElem_range];rw[show(Value.agg #[.int .i64 0,.int .i64 0]).cells.size=2 from rfl,show q * 2 % 2=0 by omega];rfl
   · rw[key _ _ h2 e1]
     simp only[madeCells,Array.getElem_map,Array.getElem_range];rw[show(Value.agg #[.int .i64 0,.int .i64 0]).cells.size=2 from rfl,show(q * 2+1) % 2=1 by omega];rfl
theorem ZjW (n:Nat) (hn:n≤1000000) (w:World): ∃W,(Instr.makeSlice 32 (.int .i64 (n:Int)) (.int .i64 (n:Int))).run Tryz.prog w=.ok (.slice (some ⟨w.heap.size,0,none⟩) n n) W∧Only nob w W∧W.ownsRow w.heap.size 63 2 (.slice (some ⟨w.heap.size,0,none⟩) n n) n (spc (ZdK [] 0 n)):=by
 obtain⟨i0,hi0,hz0,hz1,hz2⟩:=info_parts Zec;obtain⟨W,h1,h2,h3⟩:=run_make_full (P:=Tryz.prog) w w.heap.size 32 63 i0 _ 2 Tryz.underlying32 hi0 hz0 hz1 .i64 .i64 n (by rw[hz2];omega) (by unfold maxLen;omega) (Yj _);refine⟨W,h1,⟨h3.os,h3.tape,h3.output,h3.size,fun k hk _=>h3.block k hk (by simp)⟩,?_⟩
 have e:(madeCells (Value.agg #[.int .i64 0,.int .i64 0]).cells (n * 2)).toList=spc (ZdK [] 0 n):=by rw[Zkm]
 rw[e] at h2;exact h2
theorem ZuV {h:Int→Hd} (H:ZpQ h) (top a:Int) (hok: ∀y∈tr h top a,y.e=0):(ats (tr h top a)).Pairwise (· < ·)∧ ∀p∈ats (tr h top a),a≤p∧p<top:=by
 revert hok;refine Zky H top (P:=fun a=>(∀y∈tr h top a,y.e=0)→(ats (tr h top a)).Pairwise (· < ·)∧ ∀p∈ats (tr h top a),a≤p∧p<top) ?_ ?_ ?_ a
 · intro a ha _
   rw[Zeh ha];exact⟨List.Pairwise.nil,fun _ h=>by cases h⟩
 · intro a ha hs hok
   rw[Zel ha hs] at hok
   have:=hok _ (Yt.2 rfl)
   rw[Zcd] at this;exact absurd this hs
 · intro a ha hs ih hok
   rw[ZiI H ha hs] at hok ⊢;have h1:=Zcm H (ZbG hs).1;obtain⟨i1,i2⟩:=ih fun y hy=>hok y (List.mem_cons_of_mem _ hy);show(((item h top a).at_::ats (tr h top (a+osz h a))).Pairwise (· < ·))∧ ∀p∈(item h top a).at_::ats (tr h top (a+osz h a)),a≤p∧p<top;rw[ZaW,List.pairwise_cons];refine⟨⟨fun p hp=>?_,i1⟩,fun p hp=>?_⟩
   · have:=i2 p hp;omega
   · rcases List.mem_cons.1 hp with rfl|hp
     · omega
     · have:=i2 p hp;omega
theorem ZlX {s:St} (h:May15 s):s.objs.Nodup:=by
 have h6:=h.big;unfold r6 at h6;rw[Bool.and_eq_true,decide_eq_true_iff] at h6;obtain⟨hw,hp,ha, -⟩:=h6.1;have hsz: ∀x∈s.tb,1≤x.2:=fun x hx=>(hw x hx).1.2.1;have ht:=of_decide_eq_true h.top;have hb:=Za2 h.ok s.sec;obtain⟨u1,u2⟩:=ZuV (ZbB s.ws) s.top s.frm.1 (by rw[← h.steps_tr];exact h.steps_ok)
 have he:s.smalls=ats (tr (hAr s.ws) s.top s.frm.1):=by rw[h.smalls_ats,h.steps_tr]
 unfold St.objs;rw[List.nodup_append];refine⟨?_,?_,?_⟩
 · rw[he]
   exact u1.imp fun h=>by omega
 · unfold List.Nodup
   rw[List.pairwise_map];have h2:=Zl1 hp ha;refine List.Pairwise.imp_of_mem ?_ h2;intro x y hx _ hxy
   have:=hsz x hx
   omega
 · intro p hp q hq
   rw[he] at hp;have hp2:=u2 p hp;obtain⟨x,hx,rfl⟩:=List.mem_map.1 hq;have h1:=hw x hx;have h2:=hsz x hx;unfold Sp.within Sp.has Sp.ok Zo at h1;unfold St.frm at ht hp2
   split at h1 <;> simp only at h1 <;> omega
def Zjo (g:FuncId) (la:Array Value) (P:Nat→Prop) (f:Nat→Sp) (w:World):Prop:=
 (∀args w,(callFunc g args).run Tryz.prog w=.ok (.enter g args) w)∧ ∀x:Nat,P x→ ∀W:World,Only nob w W→Calls Tryz.prog g (#[.int .u64 (x:Nat)]++la) W fun e w'=>e=.returned (.agg #[.int .i64 (f x).1,.int .i64 (f x).2])∧Only nob W w'
theorem Zjo.on {g:FuncId} {la:Array Value} {P:Nat→Prop} {f:Nat→Sp} {w w':World} (h:Zjo g la P f w) (o:Only nob w w'):Zjo g la P f w':=⟨h.1,fun x hx W hW=>h.2 x hx W (o.trans hW)⟩
end
section
open Go.RowKit Go.Lib
theorem ZnN (x:Nat) (hx:x<18446744073709551616) (w:World):
 Calls Tryz.prog 28 #[.int .u64 (x:Nat)] w fun e w'=>e=.returned (.agg #[.int .i64 (Zrn x).1,.int .i64 (Zrn x).2])∧Only nob w w':=by
 obtain⟨W,hW,HBW⟩:=Zef w;have HWE:=ZZ hW;have HD:=ZZ (Zj2 (n:=(x:Int)) ⟨by omega,by omega⟩ W)
 obtain⟨K,hK⟩: ∃K:Int,K=dK x:=⟨_,rfl⟩
 obtain⟨X,hX⟩: ∃X:Int,X=dX x:=⟨_,rfl⟩
 obtain⟨E,hE⟩: ∃E:Int,E=dE x:=⟨_,rfl⟩
 have HQ:=ZZ (show Zrn x=(K,X) by rw[hK,hX];rfl);rw[← hK, ← hX, ← hE] at HD
 obtain⟨q,hq⟩: ∃q,q=Zrn x:=⟨_,rfl⟩
 rw[← hq] at HQ ⊢;clear hW hK hX hE hq
 go_enter Tryz.func28,Tryz.ntmps28
 go_upto_region 1 with fail
 rw[HWE.out]
 go_wp2_with fail
 go_at_call 62;refine HD.out.mono ?_;rintro e w2 ⟨rfl,o2⟩;obtain⟨U,hU,HBU⟩:=ZbK w2 K X;have HUE:=ZZ hU;have OU:=ZZ (HBW.out.1.trans (o2.trans HBU.out.1));have BR:=ZZ (HBW.out.2.keep (o2.trans HBU.out.1) id);have d0:U.cell? ⟨w2.heap.size,0,none⟩=some (.int .i64 K):=HBU.out.2.cell 0;have d1:U.cell? ⟨w2.heap.size,1,none⟩=some (.int .i64 X):=HBU.out.2.cell 1;clear hU o2
 go_upto_region 2 with fail
 rw[HUE.out];have b0:U.cell? ⟨w.heap.size,0,none⟩=some (.int .i64 0):=BR.out.cell 0;have b1:U.cell? ⟨w.heap.size,1,none⟩=some (.int .i64 0):=BR.out.cell 1;have fb0:=BR.out.free 0;have fb1:=BR.out.free 1;obtain⟨W4,hW4,o4,r0,r1⟩:=ZcK OU.out (Yj _) BR.out K X;have HW4:=ZZ hW4;have O4:=ZZ o4;clear hW4 o4;go_wp2;rw[HW4.out];refine bodyPost_ret (v:=.agg #[.int .i64 K,.int .i64 X]) (by simp[results,Tryz.results28,go_sem,r0,r1]) rfl ⟨by rw[HQ.out],O4.out⟩
theorem Zjc (w:World):Zjo 28 #[] (fun x=>x<18446744073709551616) Zrn w:=
 ⟨enters_of Tryz.func28 (by kernel_rfl) rfl,fun x hx W _=>ZnN x hx W⟩
theorem ZtL (all:List Int) (x:Nat) (nb mp n:Nat) (hx:x<18446744073709551616) (hl:leads all x=true) (w:World) (hb:Blk w nb 66 #[.map (some mp)]) (hm:Zf4 w mp n all):
 Calls Tryz.prog 27 #[.int .u64 (x:Nat),.pointer (some ⟨nb,0,none⟩)] w fun e w'=>e=.returned (.agg #[.int .i64 (ZcH all x).1,.int .i64 (ZcH all x).2])∧Only nob w w':=by
 obtain⟨W,hW,HBW⟩:=Zef w;have HWE:=ZZ hW;have HD:=ZZ (ZnN x hx W);have HXI:=ZZ (Zr7 x hx)
 have HQ:=ZZ (show dK x=2→dX x∈all∧ZcH all x=(2,plc all (dX x)) from fun e=>by
  have h1:dX x∈all:=by
   unfold leads at hl;rw[Bool.and_eq_true,Bool.or_eq_true] at hl;rcases hl.2 with h|h
   · rw[Ym e] at h;cases h
   · exact ZhY.1 h
  exact⟨h1,if_pos ⟨e,h1⟩⟩)
 have HN:=ZZ (show dK x≠2→ZcH all x=(dK x,dX x) from fun e=>if_neg fun h=>e h.1);have HB:=ZZ hb;have HM:=ZZ hm;unfold Zrn at HD;simp only at HD
 obtain⟨K,hK⟩: ∃K:Int,K=dK x:=⟨_,rfl⟩
 obtain⟨X,hX⟩: ∃X:Int,X=dX x:=⟨_,rfl⟩
 rw[← hK, ← hX] at HQ HN;rw[← hK, ← hX] at HD;rw[← hX] at HXI
 obtain⟨q,hq⟩: ∃q,q=ZcH all x:=⟨_,rfl⟩
 rw[← hq] at HQ HN ⊢;clear hW hK hX hq hl hb hm
 go_enter Tryz.func27,Tryz.ntmps27
 go_upto_region 1 with fail
 rw[HWE.out]
 go_wp2_with fail
 go_at_call 28;refine HD.out.mono ?_;rintro e w2 ⟨rfl,o2⟩;obtain⟨U,hU,HBU⟩:=ZbK w2 K X;have HUE:=ZZ hU;have OU:=ZZ (HBW.out.1.trans (o2.trans HBU.out.1));have BR:=ZZ (HBW.out.2.keep (o2.trans HBU.out.1) id);have hne:w.heap.size<w2.heap.size:=Yw HBW.out.2.lt o2.size
 obtain⟨p,hp⟩: ∃p,p=w2.heap.size:=⟨_,rfl⟩
 have HP:=ZZ hp;have BV:=ZZ HBU.out.2;rw[← hp] at BV hne;clear hU o2 hp
 go_upto_region 2 with fail
 rw[HUE.out, ← HP.out];have d0:U.cell? ⟨p,0,none⟩=some (.int .i64 K):=BV.out.cell 0;have d1:U.cell? ⟨p,1,none⟩=some (.int .i64 X):=BV.out.cell 1;by_cases hk2:K=2
 case neg=>
  have hbq:(K==2)=false:=by simpa using hk2
  have HF:=ZZ (HN.out hk2);have b0:U.cell? ⟨w.heap.size,0,none⟩=some (.int .i64 0):=BR.out.cell 0;have b1:U.cell? ⟨w.heap.size,1,none⟩=some (.int .i64 0):=BR.out.cell 1;have fb0:=BR.out.free 0;have fb1:=BR.out.free 1;obtain⟨W4,hW4,o4,r0,r1⟩:=ZcK OU.out (Yj _) BR.out K X;have HW4:=ZZ hW4;have O4:=ZZ o4;clear hW4 o4 hk2;go_wp2;rw[HW4.out];refine bodyPost_ret (v:=.agg #[.int .i64 K,.int .i64 X]) (by simp[results,Tryz.results27,go_sem,r0,r1]) rfl ⟨by rw[HF.out],O4.out⟩
 case pos=>
 obtain⟨hin,hval⟩:=HQ.out hk2;have HF:=ZZ hval;subst hk2;have m0:U.cell? ⟨nb,0,none⟩=some (.map (some mp)):=(HB.out.keep OU.out id).cell 0;have hlk:=(HM.out.keep OU.out id).at_ X HXI.out hin;have fd1:=BV.out.free 1
 obtain⟨V,hV,oV,bV⟩: ∃V,U.setCell ⟨p,1,none⟩ (.int .i64 (plc all X))=V∧Only (isb p) U V∧Blk V p 63 #[.int .i64 2,.int .i64 (plc all X)]:=⟨_,rfl,Zd _ _ _ _,by simpa using BV.out.put 1 (.int .i64 (plc all X))⟩
 have HV:=ZZ hV;have OV:=ZZ (OU.out.andThen oV fun i hi e=>by unfold isb at e;omega);have BR2:=ZZ (BR.out.keep oV fun e=>by unfold isb at e;omega);have BV2:=ZZ bV;clear hV oV bV hval hin
 go_upto_region 4 with fail
 rw[HV.out];clear d0 d1 fd1 m0 hlk;have d0:V.cell? ⟨p,0,none⟩=some (.int .i64 2):=BV2.out.cell 0;have d1:V.cell? ⟨p,1,none⟩=some (.int .i64 (plc all X)):=BV2.out.cell 1;have b0:V.cell? ⟨w.heap.size,0,none⟩=some (.int .i64 0):=BR2.out.cell 0;have b1:V.cell? ⟨w.heap.size,1,none⟩=some (.int .i64 0):=BR2.out.cell 1;have fb0:=BR2.out.free 0;have fb1:=BR2.out.free 1;obtain⟨W4,hW4,o4,r0,r1⟩:=ZcK OV.out (Yj _) BR2.out 2 (plc all X);have HW4:=ZZ hW4;have O4:=ZZ o4;clear hW4 o4;go_wp2;rw[HW4.out];refine bodyPost_ret (v:=.agg #[.int .i64 2,.int .i64 (plc all X)]) (by simp[results,Tryz.results27,go_sem,r0,r1]) rfl ⟨by rw[HF.out],O4.out⟩
theorem ZgG {w:World} {nb mp n:Nat} {all:List Int} (hb:Blk w nb 66 #[.map (some mp)]) (hm:Zf4 w mp n all):Zjo 27 #[.pointer (some ⟨nb,0,none⟩)] (fun x=>x<18446744073709551616∧leads all x=true) (ZcH all) w:=
 ⟨enters_of Tryz.func27 (by kernel_rfl) rfl,fun x hx W o=>ZtL all x nb mp n hx.1 hx.2 W (hb.keep o id) (hm.keep o id)⟩
theorem Zhi (v:Value) (l:List Nat) (g:FuncId) (lb:Array Value) (P:Nat→Prop) (f:Nat→Sp) (B:Nat) (w:World) (hp:Zjo g lb P f w) (h:Sl w B 1 v l.length (u64s l)) (hB:B≤w.heap.size) (hl:l.length≤1000000) (hP: ∀x∈l,P x):
 Calls Tryz.prog 29 #[v,.func (.func g) #[] lb] w fun e w'=> ∃v',e=.returned v'∧w'.ownsRow w.heap.size 63 2 v' (l.map f).length (spc (l.map f))∧Only nob w w':=by
 have HA:=ZZ h;have HT:=ZZ hp.2;have HPP:=ZZ hP;have eg:=hp.1;obtain⟨A,ca,rfl,hac,ham, -⟩:=h;unfold maxLen at ham;obtain⟨W,hmk,oW,RW⟩:=ZjW l.length hl w;have OW:=ZZ oW;have HR0:=ZZ RW
 obtain⟨L,hL⟩: ∃L,L=l.map f:=⟨_,rfl⟩
 have HL:=ZZ hL;have HLL:=ZZ (show L.length=l.length by rw[hL,List.length_map]);rw[← hL]
 obtain⟨b,hb⟩: ∃b,b=w.heap.size:=⟨_,rfl⟩
 have HBB:=ZZ hb;rw[← hb] at HR0 hmk ⊢;clear hp hP oW RW hL hb
 go_enter Tryz.func29,Tryz.ntmps29
 go_upto_region 2 with fail
 clear hmk
 go_wp2_with fail
 go_loopw [6,7,13] (fun _ _ vi wr=> ∃k:Nat,k≤l.length∧vi=.int .i64 k∧Hid (wr.ownsRow b 63 2 (.slice (some ⟨b,0,none⟩) l.length l.length) l.length (spc (ZdK L k l.length)))∧Hid (Only nob w wr)) (fun _ _ vi _=>l.length - (RowKit.intOf vi).toNat)
 case atStart=>exact⟨0,Yu _,rfl,HR0,OW⟩
 case round=>
  obtain⟨k,hk,rfl,HR,HO⟩:=hrel;by_cases hlt:k<l.length
  case pos=>
   obtain⟨x,hx⟩: ∃x,l[k]? =some x:=⟨_,Ya hlt⟩
   obtain⟨bw,ow,rfl,hbw,c0⟩:=Zg6 HA.out (HO.out.below hB fun _ h=>h.elim) hx;have HX:=ZZ hx;have HPX:=ZZ (HPP.out x (Yo hx));have HLX:=ZZ (show L[k]? =some (f x) by rw[HL.out,List.getElem?_map,hx];rfl)
   obtain⟨y,hy⟩: ∃y,y=f x:=⟨_,rfl⟩
   have HTX:=ZZ (HT.out x HPX.out);rw[← hy] at HLX HTX;clear hx hy
   go_wp2_with fail
   refine(HTX.out wr HO.out).mono ?_;rintro e w1 ⟨rfl,o⟩;have O1:=ZZ (HO.out.trans o);have HR1:=ZZ (Zb HR.out o fun _ _=>id);obtain⟨cs,hblk⟩:=Zac HR1.out (k:=b) rfl;have f0:=hblk.free (k * 2);have f1:=hblk.free (k * 2+1)
   obtain⟨z0,hz0⟩: ∃z,(spc (ZdK L k l.length))[k * 2]? =some z:=⟨_,Ya (by have:=HR1.out.1;omega)⟩
   obtain⟨z1,hz1⟩: ∃z,(spc (ZdK L k l.length))[k * 2+1]? =some z:=⟨_,Ya (by have:=HR1.out.1;omega)⟩
   have s0:w1.cell? ⟨b,k * 2,none⟩=some z0:=(HR1.out.cellAt (k * 2) (by omega)).trans hz0;have s1:w1.cell? ⟨b,k * 2+1,none⟩=some z1:=(HR1.out.cellAt (k * 2+1) (by omega)).trans hz1
   obtain⟨W1,hW1,HSET,ON⟩: ∃W1,((w1.setCell ⟨b,k * 2,none⟩ (.int .i64 y.1)).setCell ⟨b,k * 2+1,none⟩ (.int .i64 y.2))=W1∧Hid (W1.ownsRow b 63 2 (.slice (some ⟨b,0,none⟩) l.length l.length) l.length (spc (ZdK L (k+1) l.length)))∧Hid (Only nob w W1):=by
    refine⟨_,rfl,ZZ ?_,ZZ ?_⟩
    · have h1:=Zbn HR1.out (k * 2) (by omega) (.int .i64 y.1)
      have h2:=Zbn h1 (k * 2+1) (by omega) (.int .i64 y.2)
      rwa [ZqD HLX.out HLL.out] at h2
    · exact(O1.out.setCell (p:=⟨b,k * 2,none⟩) (fun h=>absurd h (by rw[HBB.out];exact Nat.lt_irrefl _)) _).setCell (p:=⟨b,k * 2+1,none⟩) (fun h=>absurd h (by rw[HBB.out];exact Nat.lt_irrefl _)) _
   have HW1:=ZZ hW1;clear hblk hz0 hz1 o hW1 c0
   go_upto_region 6 with fail
   rw[HW1.out];clear s0 s1 f0 f1;go_wp2
   go_roundw
   case rel=>exact⟨k+1,by omega,by go_num,HSET,ON⟩
   case measure=>simp[RowKit.intOf];omega
  case neg=>
   obtain rfl:k=l.length:=by omega
   have HE:=ZZ (show wr.ownsRow b 63 2 (.slice (some ⟨b,0,none⟩) l.length l.length) L.length (spc L) by have:=HR.out;rw[ZpO HLL.out] at this;rw[HLL.out];exact this);go_wp2;go_ret;exact⟨_,rfl,HE.out,HO.out⟩
def swL (l:List Slt):List Nat:=(ZhR l).map fun t=>t.2.2
theorem Zsi {l:List Slt} {i:Nat} {t:Slt} (ht:l[i]? =some t):swL (l.take (i+1))=swL (l.take i)++(if t.1=true then[t.2.2] else[]):=by
 rw[Z1 ht];unfold swL ZhR;obtain⟨b,x,y⟩:=t
 cases b <;> simp
theorem Zpt (s:St) (vw vt vf vs:Value) (B:Nat) (w:World) (h:Rd w B s vw vt vf vs) (hB:B≤w.heap.size) (hok:StOk s):
 Calls Tryz.prog 30 #[.agg #[.int .i64 s.cf.semi,.int .i64 s.cf.large,.int .i64 s.cf.slots,.int .i64 s.cf.limit,.bool s.sec,vw,.int .i64 s.top,vt,vf,vs]] w fun e w'=> ∃v,e=.returned v∧Sl w' w'.heap.size 1 v (swL s.sl).length (u64s (swL s.sl))∧Only nob w w':=by
 obtain⟨l0,hl0,hlz0,hlz1,hlz2⟩:=info_parts ZcS;obtain⟨Al,cl,rfl,hal,hcl⟩:=h.slots.form;unfold maxLen at hcl;have hfew:s.sl.length≤2000:=hok.few.2.2.2;obtain⟨V,hV,HB⟩:=Zu w s vw vt vf (.slice Al s.sl.length cl);have HVE:=ZZ hV
 obtain⟨sb,hsb⟩: ∃p,p=w.heap.size:=⟨_,rfl⟩
 have SB:=ZZ HB.out.2.2;rw[← hsb] at SB;have HSB:=ZZ hsb;have OV:=ZZ HB.out.1;have HR:=ZZ h;have HBB:=ZZ hB;have c9:=SB.out.c9;clear hV h hB hok hsb
 go_enter Tryz.func30,Tryz.ntmps30
 go_upto_region 1 with fail
 rw[HVE.out, ← HSB.out]
 go_wp2_with fail
 clear c9
 go_loopw [3,5,9] (fun out _ vi wr=> ∃(i m:Nat) (Ar:Option Addr) (cr:Nat),i≤s.sl.length∧vi=.int .i64 i∧m≤i∧out=.slice Ar m cr∧Hid (m=(swL (s.sl.take i)).length)∧Hid (wr.ownsRow V.heap.size 48 1 (.slice Ar m cr) m (u64s (swL (s.sl.take i))))∧Hid (Only nob V wr)) (fun _ _ vi _=>s.sl.length - (RowKit.intOf vi).toNat)
 case atStart=>exact⟨0,0,none,0,Yu _,rfl,Yj _,rfl,ZZ rfl,ZZ (World.ownsRow_nil _ _ _ _),ZZ (Only.refl _ _)⟩
 case round=>
 obtain⟨i,m,Ar,cr,hi,rfl,hmi,rfl,HM,HRO,HO⟩:=hrel;by_cases hilt:i<s.sl.length
 case pos=>
  obtain⟨t,ht⟩: ∃t,s.sl[i]? =some t:=⟨_,Ya hilt⟩
  obtain⟨bl,ol,hAl,hbl,t0,t1,t2⟩:=Zdk HR.out.slots ((OV.out.trans HO.out).below HBB.out fun _ h=>h.elim) ht;subst hAl;have HT:=ZZ (Zsi ht);obtain⟨X,hX,HBX⟩:=ZdC t wr;have HX:=ZZ hX
  obtain⟨p,hp⟩: ∃p,p=wr.heap.size:=⟨_,rfl⟩
  have HP:=ZZ hp;obtain⟨oX,bX,d0,d1,d2⟩:=HBX.out;rw[← hp] at d0 d1 d2;have OX:=ZZ (HO.out.trans oX);have HRX:=ZZ (Zb HRO.out oX fun _ _=>id);obtain⟨ub,uh,y⟩:=t;simp only at t0 t1 t2 d0 d1 d2 HT HX;clear ht hX hp oX bX
  go_upto_region 5 with fail
  rw[HX.out, ← HP.out];clear t0 t1 t2 d1
  cases ub with
  |false=>
   have HS:=ZZ (show swL (s.sl.take (i+1))=swL (s.sl.take i) by have:=HT.out;simpa using this)
   go_wp2_with fail
   clear d0 d2
   go_roundw
   case rel=>exact⟨i+1,m,Ar,cr,by omega,by go_num,by omega,rfl,ZZ (by rw[HS.out];exact HM.out),ZZ (by rw[HS.out];exact HRX.out),OX⟩
   case measure=>simp[RowKit.intOf];omega
  |true=>
   have HS:=ZZ (show swL (s.sl.take (i+1))=swL (s.sl.take i)++[y] by have:=HT.out;simpa using this)
   go_upto_region 6 with fail
   clear d0
   obtain⟨X3,hX3,o3,b3⟩: ∃X3,X.alloc (.cells #[.int .u64 (y:Nat)] 48)=X3∧Only nob X X3∧Blk X3 X.heap.size 48 #[.int .u64 (y:Nat)]:=⟨_,rfl,(Only.refl nob X).alloc _,Blk.new _ _ _⟩
   have HX3:=ZZ hX3;have B3:=ZZ b3;have O3:=ZZ (OX.out.trans o3);have HR3:=ZZ (Zb HRX.out o3 fun _ _=>id);clear hX3 o3 b3
   go_wp2_with (first|(with_reducible rw[HX3.out])|(with_reducible refine Zf (o:=⟨some 19,_,_,_,_,_⟩) _ rfl (.tmp 15) (.tmp 18) _ rfl V.heap.size 48 l0 _ 1 8 Tryz.underlying24 hl0 hlz0 hlz1 hlz2 rfl (by decide) (.slice Ar m cr) m (u64s (swL (s.sl.take i))) rfl HR3.out X3.heap.size (.slice (some ⟨X.heap.size,0,none⟩) 1 1) 1 (u64s [y]) rfl ?c6 (ZdG _) ?c2 ?c3 ?c4 ?c5))
   case c6=>exact Sl.of_blk (size:=1) (n:=1) (c:=1) B3.out rfl (Yj _) (by decide)
   case c2=>unfold maxLen;omega
   case c3=>omega
   case c4=>have:=O3.out.size;omega
   case c5=>
    intro v6 X6 H6 o6 _;obtain⟨A6,c6,rfl, -⟩:=Zi H6.out;have O6:=ZZ (Zay O3.out HR3.out o6 (Yj _));have HF6:=ZZ (show X6.ownsRow V.heap.size 48 1 (.slice A6 (m+1) c6) (m+1) (u64s (swL (s.sl.take (i+1)))) by rw[HS.out,show ∀a c:List Nat,u64s (a++c)=u64s a++u64s c from fun a c=>by simp[u64s]];exact H6.out);have HM7:=ZZ (show m+1=(swL (s.sl.take (i+1))).length by rw[HS.out,Ys, ← HM.out];rfl);clear H6 o6 d2;go_wp2
    go_roundw
    case rel=>exact⟨i+1,m+1,A6,c6,by omega,by go_num,by omega,rfl,HM7,HF6,O6⟩
    case measure=>simp[RowKit.intOf];omega
 case neg=>
  obtain rfl:i=s.sl.length:=by omega
  have HRF:=ZZ (show wr.ownsRow V.heap.size 48 1 (.slice Ar m cr) (swL s.sl).length (u64s (swL s.sl)) by have h1:=HRO.out;have h2:=HM.out;rw[List.take_length] at h1 h2;rw[← h2];exact h1);have O9:=ZZ (OV.out.trans HO.out);go_wp2;go_ret;exact⟨_,rfl,Sl.of_own HRF.out HRF.out.1,O9.out⟩
theorem Zkc (l:List Nat) (a n:Nat) (h:a+n≤l.length):part l a n=(List.range n).map fun k=>wd l (a+k):=by
 unfold part;apply List.ext_getElem?;intro j;rw[List.getElem?_take,List.getElem?_map];by_cases hj:j<n
 · rw[if_pos hj,List.getElem?_drop,List.getElem?_range hj,Zpy (by omega)];rfl
 · rw[if_neg hj,List.getElem?_eq_none (by simp;omega)];rfl
theorem Zib {A:Option Addr} {c:Nat} {l:List Nat} {B:Nat} {w:World} (h:Sl w B 1 (.slice A l.length c) l.length (u64s l)) (a n:Nat) (hn:a+n≤l.length):Sl w B 1 (Zc1 A a (a+n) c 1) (part l a n).length (u64s (part l a n)):=by
 have h1:=h.cut (l:=a) (k:=a+n) (by omega) hn
 have h4:((u64s l).drop (a * 1)).take ((a+n - a) * 1)=u64s (part l a n):=by
  unfold u64s part;rw[List.map_take,List.map_drop];congr 1 <;> simp
 rw[h4] at h1
 have h5:a+n - a=(part l a n).length:=by rw[ZaX _ _ _ (by omega)];omega
 rwa [h5] at h1
theorem Zik (A:Option Addr) (n c a b:Nat) (hl:a≤b) (hc:b≤c) (w:World):(Instr.sliceAt 24 (.slice A n c) (some (.int .i64 (a:Int))) (some (.int .i64 (b:Int))) none).run Tryz.prog w=.ok (Zc1 A a b c 1) w:=by
 obtain⟨i,hi, -,h1, -⟩:=info_parts ZcS
 have:=Zea Tryz.underlying24 hi A n c a b hl hc w
 rw[h1] at this;exact this
theorem Zu0 {w W:World} {b:Nat} {t:TypeId} (o:Only nob w W) (hb:w.heap.size≤b) {z0 z1 z2:Value} (B:Blk W b t #[z0,z1,z2]) (x0 x1 x2:Value):
 ∃W4,(((W.setCell ⟨b,0,none⟩ x0).setCell ⟨b,1,none⟩ x1).setCell ⟨b,2,none⟩ x2)=W4∧Only nob w W4∧Only (isb b) W W4∧Blk W4 b t #[x0,x1,x2]:=by
 refine⟨_,rfl,Zm (Zm (Zm o hb _) hb _) hb _,((Zd _ _ _ _).trans (Zd _ _ _ _)).trans (Zd _ _ _ _),?_⟩;simpa using((B.put 0 x0).put 1 x1).put 2 x2
theorem Zue (s:St) (p:Nat) (g:FuncId) (lb:Array Value) (vw vt vf vs:Value) (B:Nat) (w:World) (h:Rd w B s vw vt vf vs) (hB:B≤w.heap.size) (hok:StOk s) (hpar:Par w) (ZcL:May15 s) (hp:(p:Int)∈s.objs)
 (ht:Zjo g lb (fun x=>x<18446744073709551616∧leads s.objs x=true) (ZcH s.objs) w):
 Calls Tryz.prog 31 #[.agg #[.int .i64 s.cf.semi,.int .i64 s.cf.large,.int .i64 s.cf.slots,.int .i64 s.cf.limit,.bool s.sec,vw,.int .i64 s.top,vt,vf,vs],.int .i64 (p:Nat),.func (.func g) #[] lb] w fun e w'=>
  ∃v1 v2,e=.returned (.agg #[.int .i64 (liN s.objs s.ws p).kd,v1,v2])∧NdO w' w.heap.size (liN s.objs s.ws p) (v1,v2)∧Only nob w w':=by
 obtain⟨Aw,cw,rfl,haw,hcw⟩:=h.words.form;unfold maxLen at hcw;obtain⟨W0,hW0,HB0⟩:=Zu w s (.slice Aw s.ws.length cw) vt vf vs;have HW0:=ZZ hW0;obtain⟨W,hW,HBW⟩:=Zat W0 0 (.slice none 0 0) (.slice none 0 0);have HW:=ZZ hW
 obtain⟨sb,hsb⟩: ∃q,q=w.heap.size:=⟨_,rfl⟩
 have hr:W0.heap.size=sb+1:=by rw[← hW0,hsb];simp
 have HSB:=ZZ hsb;have OW:=ZZ (HB0.out.1.trans HBW.out.1);have SB:=ZZ (HB0.out.2.2.keep HBW.out.1);rw[← hsb] at SB;have BN:=ZZ HBW.out.2.1;rw[hr] at BN;have hsz1:sb+1<W.heap.size:=BN.out.lt;obtain⟨hb1,hb2,hb3,hb4,hb5,hb6, -⟩:=Zaq (ZcL.head hp).1
 obtain⟨F,hF⟩: ∃F:Nat,ohF s.ws p=(F:Int):=⟨(ohF s.ws p).toNat,by omega⟩
 obtain⟨R,hRr⟩: ∃R:Nat,ohR s.ws p=(R:Int):=⟨(ohR s.ws p).toNat,by omega⟩
 rw[hF,hRr] at hb4;rw[hF] at hb5;rw[hRr] at hb6
 obtain⟨x1,hx1⟩: ∃x,x=p+1:=⟨_,rfl⟩
 obtain⟨x2,hx2⟩: ∃x,x=x1+F:=⟨_,rfl⟩
 obtain⟨x3,hx3⟩: ∃x,x=x2+R:=⟨_,rfl⟩
 have hl3:x3≤s.ws.length:=by omega
 have hlw:s.ws.length≤98304:=hok.few.1
 have m1:IntKind.i64.wrap ((p:Int)+1)=(x1:Int):=by rw[IntKind.wrap_i64];omega
 have m2:IntKind.i64.wrap ((x1:Int)+(F:Int))=(x2:Int):=by rw[IntKind.wrap_i64];omega
 have m3:IntKind.i64.wrap ((x2:Int)+(R:Int))=(x3:Int):=by rw[IntKind.wrap_i64];omega
 obtain⟨FS,hFS⟩: ∃FS,FS=Zlz s.objs s.ws p:=⟨_,rfl⟩
 obtain⟨RS,hRS⟩: ∃RS,RS=Zm2 s.ws p:=⟨_,rfl⟩
 have hFP:(part s.ws x1 F).map (ZcH s.objs)=FS:=by
  rw[Zkc _ _ _ (by omega),hFS,List.map_map];unfold Zlz;rw[hF];refine List.map_congr_left fun k hk=>?_;show ZcH s.objs (wd s.ws (x1+k))=_;rw[show((p:Int)+1+(k:Nat)).toNat=x1+k by omega]
 have hRP:part s.ws x2 R=RS:=by
  rw[Zkc _ _ _ (by omega),hRS];unfold Zm2;rw[hRr,hF];refine List.map_congr_left fun k hk=>?_;rw[show((p:Int)+1+(F:Int)+(k:Nat)).toNat=x2+k by omega]
 have hPP: ∀x∈part s.ws x1 F,x<18446744073709551616∧leads s.objs x=true:=fun x hx=>by
  rw[Zkc _ _ _ (by omega)] at hx;obtain⟨k,hk,rfl⟩:=List.mem_map.1 hx;have hk':=List.mem_range.1 hk;refine⟨Zmw hok.ws _,?_⟩
  have:=Zem ZcL hp (k:=k) (by omega)
  rwa [show((p:Int)+1+(k:Nat)).toNat=x1+k by omega] at this
 have HTU:=ZZ (show ∀W',Only nob w W'→Calls Tryz.prog 29 #[Zc1 Aw x1 x2 cw 1,.func (.func g) #[] lb] W' fun e w'=> ∃v',e=.returned v'∧w'.ownsRow W'.heap.size 63 2 v' FS.length (spc FS)∧Only nob W' w' from fun W' o=>by
  have h1:=Zib (h.only o hB).words x1 F (by omega);rw[← hx2] at h1;have h2:=Zhi (Zc1 Aw x1 x2 cw 1) (part s.ws x1 F) g lb _ _ B W' (ht.on o) h1 (Yi hB o.size) (by rw[ZaX _ _ _ (by omega)];omega) hPP
  rwa [hFP] at h2)
 have HCL:=ZZ (show ∀W',Only nob w W'→Calls Tryz.prog 53 #[Zc1 Aw x2 x3 cw 1] W' fun e w'=> ∃v',e=.returned v'∧w'.ownsRow W'.heap.size 48 1 v' RS.length (u64s RS)∧Only nob W' w' from fun W' o=>by
  have h1:=Zib (h.only o hB).words x2 R (by omega);rw[← hx3,hRP] at h1
  exact ZfD (Zc1 Aw x2 x3 cw 1) RS B W' h1 (Yi hB o.size) (by rw[← hRP,ZaX _ _ _ (by omega)];omega))
 have HQ1:=ZZ (fun (w':World)=>Zik Aw s.ws.length cw x1 x2 (by omega) (by omega) w');have HQ2:=ZZ (fun (w':World)=>Zik Aw s.ws.length cw x2 x3 (by omega) (by omega) w');have HH:=ZZ (ZuE s (p:Int) _ _ _ _ B W (h.only OW.out hB) (Yi hB OW.out.size) hok (hpar.old OW.out))
 obtain⟨Kd,hK⟩: ∃K,K=ohK s.ws p:=⟨_,rfl⟩
 obtain⟨Mk,hMk⟩: ∃M,M=ohM s.ws p:=⟨_,rfl⟩
 obtain⟨Cu,hCu⟩: ∃M,M=ohC s.ws p:=⟨_,rfl⟩
 obtain⟨Ye,hYe⟩: ∃M,M=ohE s.ws p:=⟨_,rfl⟩
 have HND:=ZZ (show liN s.objs s.ws p=⟨Kd,FS,RS⟩ by unfold liN;rw[hK,hFS,hRS]);rw[← hK, ← hMk, ← hCu, ← hYe,hF,hRr] at HH;rw[HND.out];obtain⟨c0,c1,c2,c3,c4,c5,c6,c7,c8,c9⟩:=SB.out;clear hW0 hW hsb hr hb1 hb2 hb3 hb4 hb5 hb6 hF hRr hx1 hx2 hx3 hl3 hlw hFS hRS hFP hRP hPP hK hMk hCu hYe h hB hok hpar ZcL hp ht
 go_enter Tryz.func31,Tryz.ntmps31
 go_upto_region 1 with fail
 rw[HW0.out,HW.out, ← HSB.out]
 go_wp2_with fail
 go_at_call 63;refine HH.out.mono ?_;rintro e w2 ⟨rfl,o⟩;obtain⟨W2,hW2,HB2⟩:=Zz w2 Kd (F:Nat) (R:Nat) Mk Cu;have HW2:=ZZ hW2;have O2:=ZZ (OW.out.trans (o.trans HB2.out.1));have S2:=ZZ (SB.out.keep (o.trans HB2.out.1));have BN2:=ZZ (BN.out.keep (o.trans HB2.out.1) id)
 obtain⟨hb,hhb⟩: ∃q,q=w2.heap.size:=⟨_,rfl⟩
 have HHB:=ZZ hhb;have BH:=ZZ HB2.out.2;rw[← hhb] at BH
 have hne:sb+1<hb:=by have:=o.size;omega
 clear c0 c1 c2 c3 c4 c5 c6 c7 c8 c9 hW2 hhb o
 go_upto_region 2 with fail
 rw[HW2.out, ← HHB.out];have d1:W2.cell? ⟨hb,1,none⟩=some (.int .i64 (F:Nat)):=BH.out.cell 1;have d2:W2.cell? ⟨hb,2,none⟩=some (.int .i64 (R:Nat)):=BH.out.cell 2
 go_upto_region 5 with fail
 clear d1 d2 m1 m2 m3;have d0:W2.cell? ⟨hb,0,none⟩=some (.int .i64 Kd):=BH.out.cell 0;have c5:=S2.out.c5;have q1:=HQ1.out;have q2:=HQ2.out;have HN0:=ZZ (show Only nob W2 W2.drew from(Only.refl nob W2).drewN 1)
 go_region_held3 (fun w'=>w'.cell? ⟨hb,0,none⟩=some (.int .i64 Kd)∧w'.cell? ⟨sb,5,none⟩=some (.slice Aw s.ws.length cw))
  (first|(with_reducible exact C3.out)|(with_reducible exact C4.out)|(with_reducible exact And.intro (HN0.out.keeps d0) (HN0.out.keeps c5))|(with_reducible exact C5.out _ _ _)|go_keep)
  (first
    |(go_at_call 29
      with_reducible refine(HTU.out W2.drew (O2.out.trans HN0.out)).mono ?_
      rintro e w3 ⟨v1,rfl,own1,o3⟩;obtain⟨A1,k1,rfl, -⟩:=Zi own1;have F1:=ZZ own1;have O3:=ZZ (Only.drewL o3);have C3:=ZZ (And.intro (O3.out.keeps d0) (O3.out.keeps c5))
      clear own1 o3)
    |(go_at_call 53
      with_reducible refine(HCL.out w3 (O2.out.trans O3.out)).mono ?_
      rintro e w4 ⟨v2,rfl,own2,o4⟩;obtain⟨A2,k2,rfl, -⟩:=Zi own2;have F2:=ZZ own2;have O4:=ZZ o4;have C4:=ZZ (And.intro (o4.keeps C3.out.1) (o4.keeps C3.out.2));have BN4:=ZZ ((BN2.out.keep O3.out id).keep o4 id)
      have C5:=ZZ (show ∀x0 x1 x2:Value,(((w4.setCell ⟨sb+1,0,none⟩ x0).setCell ⟨sb+1,1,none⟩ x1).setCell ⟨sb+1,2,none⟩ x2).cell? ⟨hb,0,none⟩=some (.int .i64 Kd)∧(((w4.setCell ⟨sb+1,0,none⟩ x0).setCell ⟨sb+1,1,none⟩ x1).setCell ⟨sb+1,2,none⟩ x2).cell? ⟨sb,5,none⟩=some (.slice Aw s.ws.length cw) from fun x0 x1 x2=>by
       have oo:Only (isb (sb+1)) w4 _:=((Zd w4 (sb+1) 0 x0).trans (Zd _ _ 1 x1)).trans (Zd _ _ 2 x2);have l1:=BH.out.lt;have l2:=O3.out.size;have l3:=o4.size
       exact⟨(oo.cell (p:=⟨hb,0,none⟩) (by show hb<_;omega) (fun e=>by unfold isb at e;simp only at e;omega)).trans C4.out.1,(oo.cell (p:=⟨sb,5,none⟩) (by show sb<_;omega) (fun e=>by unfold isb at e;simp only at e;omega)).trans C4.out.2⟩)
      have y0:w4.cell? ⟨sb+1,0,none⟩=some (.int .i64 0):=BN4.out.cell 0;have y1:w4.cell? ⟨sb+1,1,none⟩=some (.slice none 0 0):=BN4.out.cell 1;have y2:w4.cell? ⟨sb+1,2,none⟩=some (.slice none 0 0):=BN4.out.cell 2;have z0:=BN4.out.free 0;have z1:=BN4.out.free 1;have z2:=BN4.out.free 2
      clear own2 o4))
 all_goals
  clear y0 y1 y2 z0 z1 z2;have O5:=ZZ (O2.out.trans (O3.out.trans O4.out));obtain⟨W5,hW5,o5,p5,b5⟩:=Zu0 O5.out (Nat.le_of_lt (by rw[← HSB.out];exact Nat.lt_succ_self sb)) BN4.out (.int .i64 Kd) (.slice A1 FS.length k1) (.slice A2 RS.length k2)
  have hsz:w.heap.size≤w3.heap.size∧w.heap.size≤w4.heap.size:=⟨(O2.out.trans O3.out).size,O5.out.size⟩
  have hw2:sb+1<W2.heap.size:=BN2.out.lt;have hw23:=O3.out.size;have G1:=Zb (Zb F1.out O4.out fun _ _=>id) p5 (fun k e1 e2=>by unfold isb at e2;have h9:W2.drew.heap.size≤k:=(Zl F1.out e1).1;have h8:W2.drew.heap.size=W2.heap.size:=rfl;omega);have G2:=Zb F2.out p5 (fun k e1 e2=>by unfold isb at e2;have h9:=(Zl F2.out e1).1;omega);have HNO:=ZZ (show NdO W5 w.heap.size ⟨Kd,FS,RS⟩ ((.slice A1 FS.length k1),(.slice A2 RS.length k2)) from⟨ZE G1 (fun k e1=>by have h9:W2.drew.heap.size≤k:=(Zl F1.out e1).1;have h8:W2.drew.heap.size=W2.heap.size:=rfl;have:=O2.out.size;omega),ZE G2 (fun k e1=>by have h9:=(Zl F2.out e1).1;omega)⟩);rw[hW5];have r0:W5.cell? ⟨sb+1,0,none⟩=some (.int .i64 Kd):=b5.cell 0;have r1:W5.cell? ⟨sb+1,1,none⟩=some (.slice A1 FS.length k1):=b5.cell 1;have r2:W5.cell? ⟨sb+1,2,none⟩=some (.slice A2 RS.length k2):=b5.cell 2;go_wp2;refine bodyPost_ret (v:=.agg #[.int .i64 Kd,(.slice A1 FS.length k1),(.slice A2 RS.length k2)]) (by simp[results,Tryz.results31,go_sem,r0,r1,r2]) rfl ⟨_,_,rfl,HNO.out,o5⟩
end
end Go.Proofs.YteieocddfnlmdaaGreatDoor
